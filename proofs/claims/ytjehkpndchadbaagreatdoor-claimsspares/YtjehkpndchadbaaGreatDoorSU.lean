import Derived.Test.YtjehkpndchadbaaGreatDoorSZ
import Derived.Test.YtjehkpndchadbaaGreatDoorJZ
import Derived.WalkSmall
namespace Go.Proofs.YtjehkpndchadbaaGreatDoor
open Go.RowKit Go.Shelf

/-- What stands ahead of all memory of one's own: the tables of unicode/utf8, strconv's two errors. -/
structure GL (B : Nat) (w : World) : Prop where
  hi : 8 ≤ B
  u8 : U8 w
  er : ∃ t1 p1 t2 p2, w.var? Tryz.prog "strconv.ErrSyntax" = some #[.iface t1 p1] ∧ w.var? Tryz.prog "strconv.ErrRange" = some #[.iface t2 p2]
theorem GL.below {B : Nat} {w w' : World} (h : GL B w) (hb : Below B w w') : GL B w' := by
  have h8 := h.hi
  refine ⟨h.hi, ⟨fun c hc => cell_but (h.u8.1 c hc) fun _ => hb.block _ (by omega), fun i hi => ⟨cell_but (h.u8.2 i hi).1 fun _ => hb.block _ (by omega), cell_but (h.u8.2 i hi).2 fun _ => hb.block _ (by omega)⟩⟩, ?_⟩
  obtain ⟨t1, p1, t2, p2, e1, e2⟩ := h.er
  exact ⟨t1, p1, t2, p2, var?_below hb (g := 3) (by kernel_rfl) (by omega) e1, var?_below hb (g := 4) (by kernel_rfl) (by omega) e2⟩

def iV (i : Nat) : Value := .int .i64 (i : Int)

/-- The reader, and all that it has. -/
structure RS (B : Nat) (w : World) (b : Nat) (t : List UInt8) (s : JS) (nv ov : Value) (mb : Nat) (c q : Int) : Prop where
  lo : B ≤ b
  mlo : B ≤ mb
  blo : B ≤ w.heap.size
  rb : RB w b t s.pos ⟨.int .i64 (s.aw : Int), nv, ov, .string ⟨s.key.toArray⟩, .map (some mb)⟩ c q
  nod : w.ownsRow B 37 6 nv s.nodes.length (nCs s.nodes)
  opn : w.ownsRow B 3 1 ov s.opn.length (s.opn.map iV)
  met : Mp w mb s.met

theorem Mp.lt {w : World} {mb : Nat} {l : List (Nat × List UInt8)} (h : Mp w mb l) : mb < w.heap.size := by
  obtain ⟨es, clk, hw, _⟩ := h
  exact (Array.getElem?_eq_some_iff.1 hw).1
theorem Mp.keep {w w' : World} {mb : Nat} {l : List (Nat × List UInt8)} (h : Mp w mb l) (hk : w'.heap[mb]? = w.heap[mb]?) : Mp w' mb l := by
  obtain ⟨es, clk, hw, r⟩ := h
  exact ⟨es, clk, by rw [hk]; exact hw, r⟩
theorem Mp.ne_bl {w : World} {mb b : Nat} {l : List (Nat × List UInt8)} {t : TypeId} {vs : List Value} (h : Mp w mb l) (h2 : Bl t w b vs) : mb ≠ b := by
  obtain ⟨es, clk, hw, _⟩ := h
  intro e
  subst e
  unfold Bl at h2
  rw [hw] at h2
  cases h2
theorem Mp.ne_own {w : World} {mb base n size : Nat} {l : List (Nat × List UInt8)} {e : TypeId} {v : Value} {xs : List Value} (h : Mp w mb l) (h2 : w.ownsRow base e size v n xs) : v.ownBlock ≠ some mb := by
  obtain ⟨es, clk, hw, _⟩ := h
  intro hg
  obtain ⟨cur, hc⟩ := own_type h2 hg
  rw [hw] at hc
  cases hc

theorem hne_nr : 37 ≠ 67 := by decide
theorem hne_ir : 3 ≠ 67 := by decide
theorem hne_ni : 37 ≠ 3 := by decide
theorem hne_in : 3 ≠ 37 := by decide

/-- Only the reader's own block has changed. -/
theorem RS.but {B : Nat} {w w' : World} {b : Nat} {t : List UInt8} {s s' : JS} {nv ov : Value} {mb : Nat} {c q c' q' : Int} (h : RS B w b t s nv ov mb c q) (hb : But w w' b)
    (hr : RB w' b t s'.pos ⟨.int .i64 (s'.aw : Int), nv, ov, .string ⟨s'.key.toArray⟩, .map (some mb)⟩ c' q') (h1 : s'.nodes = s.nodes) (h2 : s'.opn = s.opn) (h3 : s'.met = s.met) : RS B w' b t s' nv ov mb c' q' :=
  ⟨h.lo, h.mlo, Nat.le_trans h.blo hb.size, hr, by rw [h1]; exact own_but h.nod h.rb hne_nr hb, by rw [h2]; exact own_but h.opn h.rb hne_ir hb, by rw [h3]; exact h.met.keep (hb.block mb h.met.lt (h.met.ne_bl h.rb))⟩
theorem RS.bel {B : Nat} {w w' : World} {b : Nat} {t : List UInt8} {s : JS} {nv ov : Value} {mb : Nat} {c q : Int} (h : RS B w b t s nv ov mb c q) (hb : But w w' b) : Below B w w' := hb.below h.blo h.lo
/-- Nothing old has changed. -/
theorem RS.below {B : Nat} {w w' : World} {b : Nat} {t : List UInt8} {s : JS} {nv ov : Value} {mb : Nat} {c q : Int} (h : RS B w b t s nv ov mb c q) (hb : Below w.heap.size w w') : RS B w' b t s nv ov mb c q :=
  ⟨h.lo, h.mlo, Nat.le_trans h.blo hb.size, h.rb.below hb (Nat.le_refl _), own_below h.nod hb (Nat.le_refl _), own_below h.opn hb (Nat.le_refl _), h.met.keep (hb.block mb h.met.lt)⟩
theorem RS.drewN {B : Nat} {w : World} {b : Nat} {t : List UInt8} {s : JS} {nv ov : Value} {mb : Nat} {c q : Int} (h : RS B w b t s nv ov mb c q) (n : Nat) : RS B (w.drewN n) b t s nv ov mb c q :=
  ⟨h.lo, h.mlo, h.blo, h.rb.drewN n, h.nod, h.opn, h.met⟩

/-- The open ones' row where the last one is told. -/
theorem RS.last {B : Nat} {w : World} {b : Nat} {t : List UInt8} {s : JS} {nv ov : Value} {mb : Nat} {c q : Int} (h : RS B w b t s nv ov mb c q) {xs : List Nat} {i : Nat} (ho : s.opn = xs ++ [i]) :
    ∃ g cap, ov = .slice (some ⟨g, 0, none⟩) (xs.length + 1) cap ∧ xs.length + 1 ≤ cap ∧ w.cell? ⟨g, xs.length, none⟩ = some (iV i) := by
  have h1 := h.opn
  rw [ho] at h1
  rw [List.length_append, List.length_singleton] at h1
  obtain ⟨a, cap, e, hc, hg⟩ := own_slice h1
  obtain ⟨g, rfl⟩ := hg (by omega)
  subst e
  exact ⟨g, cap, rfl, hc, (own_cell h1 xs.length (iV i) (by simp)).1⟩

set_option maxHeartbeats 1000000 in
theorem innermost_any {B : Nat} {w : World} {b : Nat} {t : List UInt8} {s : JS} {nv ov : Value} {mb : Nat} {c q : Int} (h : RS B w b t s nv ov mb c q) {xs : List Nat} {i : Nat} (ho : s.opn = xs ++ [i]) (hl : xs.length ≤ 1000) :
    Calls Tryz.prog 52 #[.pointer (some ⟨b, 0, none⟩)] w fun e w' => e = .returned (.int .i64 (i : Int)) ∧ ∃ n, w' = w.drewN n := by
  obtain ⟨g, cap, rfl, hcap, hc⟩ := h.last ho
  have c4 := h.rb.c4
  unfold iV at hc
  clear h ho
  go_enter Tryz.func52, Tryz.ntmps52
  go_wp2
  go_quiet (fail)
  go_wp2
  go_ret
  exact ⟨rfl, _, rfl⟩

end Go.Proofs.YtjehkpndchadbaaGreatDoor

namespace Go.Proofs.YtjehkpndchadbaaGreatDoor
open Go.RowKit Go.Shelf

theorem RS.node {B : Nat} {w : World} {b : Nat} {t : List UInt8} {s : JS} {nv ov : Value} {mb : Nat} {c q : Int} (h : RS B w b t s nv ov mb c q) {i : Nat} (hi : i < s.nodes.length) :
    ∃ g cap, nv = .slice (some ⟨g, 0, none⟩) s.nodes.length cap ∧ s.nodes.length ≤ cap ∧ (∀ j u, j < 6 → (nC (s.nodes.getD i (nd0 0)))[j]? = some u → w.cell? ⟨g, i * 6 + j, none⟩ = some u ∧ w.frozen? ⟨g, i * 6 + j, none⟩ = false) := by
  obtain ⟨a, cap, e, hc, hg⟩ := own_slice h.nod
  obtain ⟨g, rfl⟩ := hg (by omega)
  subst e
  refine ⟨g, cap, rfl, hc, fun j u hj hu => own_cell h.nod (i * 6 + j) u ?_⟩
  rw [nCs_at s.nodes i j hi hj]
  exact hu

theorem endF_nil {s : JS} (h : s.opn = []) : endF s = { s with aw := 7 } := by unfold endF; rw [if_pos h]
theorem endF_list {s : JS} {xs : List Nat} {i : Nat} (ho : s.opn = xs ++ [i]) (hk : (s.nodes.getD i (nd0 0)).kind = 6) : endF s = { s with aw := 5 } := by
  unfold endF
  rw [if_neg (by rw [ho]; simp), if_pos]
  unfold inm
  rw [ho, last_snoc]
  exact hk
theorem endF_obj {s : JS} {xs : List Nat} {i : Nat} (ho : s.opn = xs ++ [i]) (hk : (s.nodes.getD i (nd0 0)).kind ≠ 6) : endF s = { s with aw := 6 } := by
  unfold endF
  rw [if_neg (by rw [ho]; simp), if_neg]
  unfold inm
  rw [ho, last_snoc]
  exact hk

set_option maxHeartbeats 2000000 in
theorem ended_any {B : Nat} {w : World} {b : Nat} {t : List UInt8} {s : JS} {nv ov : Value} {mb : Nat} {c q : Int} (h : RS B w b t s nv ov mb c q) (hop : ∀ i ∈ s.opn, i < s.nodes.length) (hl : s.opn.length ≤ 32) (_hn : s.nodes.length ≤ 1073741824) :
    Calls Tryz.prog 44 #[.pointer (some ⟨b, 0, none⟩)] w fun e w' => e = .returned (.bool true) ∧ But w w' b ∧ RS B w' b t (endF s) nv ov mb c q := by
  have c4 := h.rb.c4
  have c2 := h.rb.c2
  have f2 := h.rb.fz 2
  have H : Hid (RS B w b t s nv ov mb c q) := h
  have HS : Hid (∀ (n a : Nat), RS B ((w.drewN n).setCell ⟨b, 2, none⟩ (.int .i64 (a : Int))) b t { s with aw := a } nv ov mb c q) := fun n a =>
    (h.drewN n).but ((But.refl _ _).set _ _) (by have := (h.rb.drewN n).s2 (.int .i64 (a : Int)); exact this) rfl rfl rfl
  by_cases ho : s.opn = []
  · have HE : Hid (endF s = { s with aw := 7 }) := endF_nil ho
    obtain ⟨a, cap, e, hc, _⟩ := own_slice h.opn
    rw [ho, List.length_nil] at e hc
    subst e
    clear h ho
    go_enter Tryz.func44, Tryz.ntmps44
    go_wp2
    go_ret
    rw [HE.out]
    exact ⟨rfl, (But.refl _ _).set _ _, HS.out 0 7⟩
  · obtain ⟨xs, i, hox⟩ := snoc_of ho
    have hi : i < s.nodes.length := hop i (by rw [hox]; simp)
    have hxl : xs.length ≤ 1000 := by rw [hox] at hl; simp at hl; omega
    have CI := fun n => innermost_any (h.drewN n) hox hxl
    have HCI : Hid (∀ n, Calls Tryz.prog 52 #[.pointer (some ⟨b, 0, none⟩)] (w.drewN n) fun e w' => e = .returned (.int .i64 (i : Int)) ∧ ∃ m, w' = (w.drewN n).drewN m) := CI
    obtain ⟨g, cap, rfl, hcap, hcell⟩ := h.node hi
    have hk := (hcell 0 (.int .i64 (s.nodes.getD i (nd0 0)).kind) (by omega) rfl).1
    rw [Nat.add_zero] at hk
    have c3 := h.rb.c3
    obtain ⟨go, co, rfl, hco, _⟩ := h.last hox
    have hE5 := @endF_list s xs i hox
    have hE6 := @endF_obj s xs i hox
    have HE5 : Hid ((s.nodes.getD i (nd0 0)).kind = 6 → endF s = { s with aw := 5 }) := hE5
    have HE6 : Hid ((s.nodes.getD i (nd0 0)).kind ≠ 6 → endF s = { s with aw := 6 }) := hE6
    have hq0 : (((xs.length + 1 : Nat) : Int) == 0) = false := by simp; omega
    generalize (s.nodes.getD i (nd0 0)).kind = K at *
    generalize s.nodes.length = N at *
    clear h ho hox CI hcell hE5 hE6 hop
    by_cases hk6 : K = 6
    · have HE := HE5.out hk6
      have HE' : Hid (endF s = { s with aw := 5 }) := HE
      have hkb : (K == 6) = true := by simpa using hk6
      clear HE HE5 HE6
      subst hk6
      go_enter Tryz.func44, Tryz.ntmps44
      go_wp2
      go_quiet (refine Calls.quiet_of (HCI.out _))
      go_wp2
      go_ret
      rw [HE'.out]
      exact ⟨rfl, ((But.refl _ _).drewN _).set _ _, HS.out _ 5⟩
    · have HE := HE6.out hk6
      have HE' : Hid (endF s = { s with aw := 6 }) := HE
      have hkb : (K == 6) = false := by simpa using hk6
      clear HE HE5 HE6
      go_enter Tryz.func44, Tryz.ntmps44
      go_wp2
      go_quiet (refine Calls.quiet_of (HCI.out _))
      go_wp2
      go_ret
      rw [HE'.out]
      exact ⟨rfl, ((But.refl _ _).drewN _).set _ _, HS.out _ 6⟩

end Go.Proofs.YtjehkpndchadbaaGreatDoor

namespace Go.Proofs.YtjehkpndchadbaaGreatDoor
open Go.RowKit Go.Shelf

theorem infoN : (Tryz.prog.info? 37).map (fun i => (i.zero, i.size, i.bytes)) = some (some (.agg #[.int .i64 0, .string ⟨#[]⟩, .string ⟨#[]⟩, .bool false, .int .i64 0, .int .i64 0]), 6, 64) := by kernel_rfl
theorem infoI : (Tryz.prog.info? 3).map (fun i => (i.zero, i.size, i.bytes)) = some (some (.int .i64 0), 1, 8) := by kernel_rfl

theorem bl_grown {t : TypeId} {w w' : World} {b : Nat} {vs : List Value} {o : Option Nat} (h : Bl t w b vs) (hg : w.grownBy w' o) (hne : o ≠ some b) : Bl t w' b vs := by
  have := h.lt
  unfold Bl at *
  rw [hg.block b this (fun e => hne e.symm)]
  exact h
theorem alloc_below_drew (w : World) (o : Obj) : Below w.heap.size w (w.drew.alloc o) := ⟨rfl, rfl, rfl, by rw [alloc_size]; exact Nat.le_succ _, fun k hk => (alloc_below w.drew o).block k hk⟩

/-- The nodes' row has grown by one. -/
theorem RS.push {B : Nat} {w w' : World} {b : Nat} {t : List UInt8} {s : JS} {nv ov v' : Value} {mb : Nat} {c q : Int} {n : Nd} (h : RS B w b t s nv ov mb c q)
    (ho : w'.ownsRow B 37 6 v' (s.nodes.length + 1) (nCs s.nodes ++ nC n)) (hg : w.grownBy w' nv.ownBlock) : RS B (w'.setCell ⟨b, 3, none⟩ v') b t { s with nodes := s.nodes ++ [n] } v' ov mb c q := by
  have hnb : nv.ownBlock ≠ some b := block_apart h.nod h.rb hne_nr
  have hr2 : RB w' b t s.pos ⟨.int .i64 (s.aw : Int), nv, ov, .string ⟨s.key.toArray⟩, .map (some mb)⟩ c q := bl_grown h.rb hg hnb
  have hno : ∀ g, ov.ownBlock = some g → nv.ownBlock ≠ some g := fun g hg => kinds_apart h.opn h.nod hne_in hg
  refine ⟨h.lo, h.mlo, ?_, hr2.s3 v', ?_, ?_, ?_⟩
  · have := hg.size; have := h.blo; simp; omega
  · show (w'.setCell _ _).ownsRow B 37 6 v' (s.nodes ++ [n]).length (nCs (s.nodes ++ [n]))
    rw [List.length_append, nCs_append, nCs_one]
    have a3 : v'.ownBlock ≠ some b := block_apart ho hr2 hne_nr
    exact own_keep ho fun g hgv => heap_setCell_other w' _ g _ (fun e => a3 (by rw [hgv]; exact congrArg some e))
  · have a2 : ov.ownBlock ≠ some b := block_apart h.opn h.rb hne_ir
    refine own_keep h.opn fun g hgo => ?_
    rw [heap_setCell_other w' _ g _ (fun e => a2 (by rw [hgo]; exact congrArg some e))]
    exact hg.block g (h.opn.lt g hgo).2 (fun e => hno g hgo e.symm)
  · have hmb : mb ≠ b := h.met.ne_bl h.rb
    refine h.met.keep ?_
    rw [heap_setCell_other w' ⟨b, 3, none⟩ mb _ hmb]
    exact hg.block mb h.met.lt (fun e => h.met.ne_own h.nod e.symm)
theorem RS.push_below {B : Nat} {w w' : World} {b : Nat} {t : List UInt8} {s : JS} {nv ov v' : Value} {mb : Nat} {c q : Int} (h : RS B w b t s nv ov mb c q) (hg : w.grownBy w' nv.ownBlock) : Below B w (w'.setCell ⟨b, 3, none⟩ v') :=
  Below.setCell (Below.grown (Below.refl _ _) hg h.blo (own_block h.nod)) h.lo _
/-- A node's kids set anew. -/
theorem RS.kid {B : Nat} {w : World} {b : Nat} {t : List UInt8} {s : JS} {g cap : Nat} {ov : Value} {mb : Nat} {c q : Int} {i : Nat} {v : Int} (h : RS B w b t s (.slice (some ⟨g, 0, none⟩) s.nodes.length cap) ov mb c q) (hi : i < s.nodes.length) :
    RS B (w.setCell ⟨g, i * 6 + 5, none⟩ (.int .i64 v)) b t { s with nodes := s.nodes.modify i fun n => { n with kids := v } } (.slice (some ⟨g, 0, none⟩) s.nodes.length cap) ov mb c q ∧ Below B w (w.setCell ⟨g, i * 6 + 5, none⟩ (.int .i64 v)) := by
  have hs := h.nod.stored (i * 6 + 5) (.int .i64 v)
  rw [nCs_kids _ _ _ hi] at hs
  have hnb : (Value.slice (some ⟨g, 0, none⟩) s.nodes.length cap).ownBlock ≠ some b := block_apart h.nod h.rb hne_nr
  have hno : ∀ k, ov.ownBlock = some k → (Value.slice (some ⟨g, 0, none⟩) s.nodes.length cap).ownBlock ≠ some k := fun k hk => kinds_apart h.opn h.nod hne_in hk
  have hgb : Below B w (w.setCell ⟨g, i * 6 + 5, none⟩ (.int .i64 v)) := Below.grown (Below.refl _ _) hs.2 h.blo (own_block h.nod)
  refine ⟨⟨h.lo, h.mlo, Nat.le_trans h.blo hgb.size, ?_, ?_, ?_, ?_⟩, hgb⟩
  · have h1 := h.rb
    unfold RB Bl at *
    rw [heap_setCell_other w ⟨g, i * 6 + 5, none⟩ b _ (fun e => hnb (congrArg some e.symm))]
    exact h1
  · show World.ownsRow _ B 37 6 _ (s.nodes.modify i _).length _
    rw [List.length_modify]
    exact hs.1
  · exact own_keep h.opn fun k hk => heap_setCell_other w _ k _ (fun e => hno k hk (congrArg some e.symm))
  · exact h.met.keep (heap_setCell_other w _ mb _ (fun e => h.met.ne_own h.nod (congrArg some e.symm)))

theorem modify_eq {l : List Nd} {i : Nat} (hi : i < l.length) : (l.modify i fun n => { n with kids := (l.getD i (nd0 0)).kids + 1 }) = kidUp l i := by
  unfold kidUp
  apply List.ext_getElem
  · simp
  · intro j h1 h2
    rw [List.getElem_modify, List.getElem_modify]
    split
    · rename_i h
      subst h
      simp [List.getD_eq_getElem?_getD, hi]
    · rfl
theorem addF_nil {s : JS} {n : Nd} (h : s.opn = []) : addF n s = endF { s with nodes := s.nodes ++ [{ n with key := s.key }], key := [] } := by
  unfold addF; simp only; rw [if_pos h]
theorem addF_in {s : JS} {n : Nd} {xs : List Nat} {i : Nat} (h : s.opn = xs ++ [i]) : addF n s = endF { s with nodes := kidUp (s.nodes ++ [{ n with key := s.key }]) i, key := [] } := by
  unfold addF
  simp only
  rw [if_neg (by rw [h]; simp)]
  unfold inm
  rw [h, last_snoc]

set_option maxRecDepth 100000 in
set_option maxHeartbeats 8000000 in
theorem add_any {B : Nat} {w : World} {b : Nat} {t : List UInt8} {s : JS} {nv ov : Value} {mb : Nat} {c q : Int} (n : Nd) (h : RS B w b t s nv ov mb c q) (hop : ∀ i ∈ s.opn, i < s.nodes.length) (hol : s.opn.length ≤ 32) (hnl : s.nodes.length ≤ 1000000000) (hkd : ∀ m ∈ s.nodes, 0 ≤ m.kids ∧ m.kids ≤ (s.nodes.length : Int)) :
    Calls Tryz.prog 47 #[.pointer (some ⟨b, 0, none⟩), .agg #[.int .i64 n.kind, .string ⟨n.key.toArray⟩, .string ⟨n.text.toArray⟩, .bool n.whole, .int .i64 n.int, .int .i64 n.kids]] w fun e w' => e = .returned (.bool true) ∧ Below B w w' ∧ ∃ nv', RS B w' b t (addF n s) nv' ov mb c q := by
  have hA0 := alloc_below w (Obj.cells #[.int .i64 n.kind, .string ⟨n.key.toArray⟩, .string ⟨n.text.toArray⟩, .bool n.whole, .int .i64 n.int, .int .i64 n.kids] 37)
  have hA := alloc_below w (Obj.cells #[.int .i64 n.kind, .string ⟨s.key.toArray⟩, .string ⟨n.text.toArray⟩, .bool n.whole, .int .i64 n.int, .int .i64 n.kids] 37)
  have c5 := (h.below hA0).rb.c5
  have hRA := h.below hA
  have c5' := hRA.rb.c5
  have f5' := hRA.rb.fz 5
  simp only at c5 c5'
  have hbl : Bl 37 (w.alloc (Obj.cells #[.int .i64 n.kind, .string ⟨s.key.toArray⟩, .string ⟨n.text.toArray⟩, .bool n.whole, .int .i64 n.int, .int .i64 n.kids] 37)) w.heap.size (nC { n with key := s.key }) := alloc_bl _ _ _
  have hbw : w.heap.size ≠ b := by have := h.rb.lt; omega
  have hbl0 : Bl 37 (w.alloc (Obj.cells #[.int .i64 n.kind, .string ⟨n.key.toArray⟩, .string ⟨n.text.toArray⟩, .bool n.whole, .int .i64 n.int, .int .i64 n.kids] 37)) w.heap.size (nC n) := alloc_bl _ _ _
  have d1 : (w.alloc (Obj.cells #[.int .i64 n.kind, .string ⟨n.key.toArray⟩, .string ⟨n.text.toArray⟩, .bool n.whole, .int .i64 n.int, .int .i64 n.kids] 37)).cell? ⟨w.heap.size, 1, none⟩ = some (.string ⟨n.key.toArray⟩) := hbl0.cell 1 (by rw [nC_length]; omega)
  have g1 := hbl0.frozen 1
  have HR1 : Hid (RS B ((w.alloc (Obj.cells #[.int .i64 n.kind, .string ⟨s.key.toArray⟩, .string ⟨n.text.toArray⟩, .bool n.whole, .int .i64 n.int, .int .i64 n.kids] 37)).setCell ⟨b, 5, none⟩ (.string ⟨#[]⟩)) b t { s with key := [] } nv ov mb c q) := hRA.but ((But.refl _ _).set _ _) (by have := hRA.rb.s5 (.string ⟨#[]⟩); exact this) rfl rfl rfl
  have HB1 : Hid (Below B w ((w.alloc (Obj.cells #[.int .i64 n.kind, .string ⟨s.key.toArray⟩, .string ⟨n.text.toArray⟩, .bool n.whole, .int .i64 n.int, .int .i64 n.kids] 37)).setCell ⟨b, 5, none⟩ (.string ⟨#[]⟩))) := Below.setCell (hA.mono h.blo) h.lo _
  have HN1 : Hid (Bl 37 ((w.alloc (Obj.cells #[.int .i64 n.kind, .string ⟨s.key.toArray⟩, .string ⟨n.text.toArray⟩, .bool n.whole, .int .i64 n.int, .int .i64 n.kids] 37)).setCell ⟨b, 5, none⟩ (.string ⟨#[]⟩)) w.heap.size (nC { n with key := s.key })) := hbl.but ((But.refl _ _).set _ _) hbw
  have HNX : Hid (nv.ownBlock ≠ some w.heap.size) := fun e => by have := (h.nod.lt _ e).2; omega
  have HADn : Hid (s.opn = [] → addF n s = endF { s with nodes := s.nodes ++ [{ n with key := s.key }], key := [] }) := addF_nil
  have HADi : Hid (∀ xs i, s.opn = xs ++ [i] → addF n s = endF { s with nodes := kidUp (s.nodes ++ [{ n with key := s.key }]) i, key := [] }) := fun xs i h => addF_in h
  have HOP : Hid (∀ i ∈ s.opn, i < s.nodes.length) := hop
  have HKD : Hid (∀ m ∈ s.nodes, 0 ≤ m.kids ∧ m.kids ≤ (s.nodes.length : Int)) := hkd
  clear hA0 hA hRA hbl hbl0 h hop hkd
  obtain ⟨i1, hj, hy0, hy1, hy2⟩ := info_parts infoN
  go_enter Tryz.func47, Tryz.ntmps47
  go_wp2
  obtain ⟨bx, hbx⟩ : ∃ bx, bx = w.heap.size := ⟨_, rfl⟩
  generalize ((w.alloc (Obj.cells #[.int .i64 n.kind, .string ⟨s.key.toArray⟩, .string ⟨n.text.toArray⟩, .bool n.whole, .int .i64 n.int, .int .i64 n.kids] 37)).setCell ⟨b, 5, none⟩ (.string ⟨#[]⟩)) = wv at *
  rw [← hbx] at HN1 HNX ⊢
  clear hbx d1 g1 c5 c5' f5'
  have e0 : wv.cell? ⟨bx, 0, none⟩ = some (.int .i64 n.kind) := HN1.out.cell 0 (by rw [nC_length]; omega)
  have e1 : wv.cell? ⟨bx, 1, none⟩ = some (.string ⟨s.key.toArray⟩) := HN1.out.cell 1 (by rw [nC_length]; omega)
  have e2 : wv.cell? ⟨bx, 2, none⟩ = some (.string ⟨n.text.toArray⟩) := HN1.out.cell 2 (by rw [nC_length]; omega)
  have e3 : wv.cell? ⟨bx, 3, none⟩ = some (.bool n.whole) := HN1.out.cell 3 (by rw [nC_length]; omega)
  have e4 : wv.cell? ⟨bx, 4, none⟩ = some (.int .i64 n.int) := HN1.out.cell 4 (by rw [nC_length]; omega)
  have e5 : wv.cell? ⟨bx, 5, none⟩ = some (.int .i64 n.kids) := HN1.out.cell 5 (by rw [nC_length]; omega)
  have c3 := HR1.out.rb.c3
  simp only at c3
  refine wp_region_K 10 (fun (w' : World) => w'.cell? ⟨b, 3, none⟩ = some nv ∧ w'.cell? ⟨bx, 0, none⟩ = some (.int .i64 n.kind) ∧ w'.cell? ⟨bx, 1, none⟩ = some (.string ⟨s.key.toArray⟩) ∧ w'.cell? ⟨bx, 2, none⟩ = some (.string ⟨n.text.toArray⟩) ∧ w'.cell? ⟨bx, 3, none⟩ = some (.bool n.whole) ∧ w'.cell? ⟨bx, 4, none⟩ = some (.int .i64 n.int) ∧ w'.cell? ⟨bx, 5, none⟩ = some (.int .i64 n.kids)) (by kernel_rfl) ?_
  have hHeld : ((fun (w' : World) => w'.cell? ⟨b, 3, none⟩ = some nv ∧ w'.cell? ⟨bx, 0, none⟩ = some (.int .i64 n.kind) ∧ w'.cell? ⟨bx, 1, none⟩ = some (.string ⟨s.key.toArray⟩) ∧ w'.cell? ⟨bx, 2, none⟩ = some (.string ⟨n.text.toArray⟩) ∧ w'.cell? ⟨bx, 3, none⟩ = some (.bool n.whole) ∧ w'.cell? ⟨bx, 4, none⟩ = some (.int .i64 n.int) ∧ w'.cell? ⟨bx, 5, none⟩ = some (.int .i64 n.kids))) (World.drew _) := ⟨c3, e0, e1, e2, e3, e4, e5⟩
  refine wpAnyK_take0 0 (v := ?v1) rfl (by kernel_rfl) (fun _ _ _ h => h) (Or.inl ⟨by rfl, ?hy1⟩) (fun _ => hHeld) ?_
  case hy1 => (intro w hSw; go_simp; try with_reducible rfl)
  try simp only [Act.put, List.setIfInBounds_toArray, List.set_cons_zero, List.set_cons_succ]
  refine wpAnyK_take0 1 (v := ?v2) rfl (by kernel_rfl) (fun _ _ _ h => h) (Or.inl ⟨by rfl, ?hy2⟩) (fun _ => hHeld) ?_
  case hy2 => (intro w hSw; go_simp; try with_reducible rfl)
  try simp only [Act.put, List.setIfInBounds_toArray, List.set_cons_zero, List.set_cons_succ]
  refine wpAnyK_take0 2 (v := ?v3) rfl (by kernel_rfl) (fun _ _ _ h => h) (Or.inl ⟨by rfl, ?hy3⟩) (fun _ => hHeld) ?_
  case hy3 => (intro w hSw; go_simp; try with_reducible rfl)
  try simp only [Act.put, List.setIfInBounds_toArray, List.set_cons_zero, List.set_cons_succ]
  refine wpAnyK_take0 3 (v := ?v4) rfl (by kernel_rfl) (fun _ _ _ h => h) (Or.inl ⟨by rfl, ?hy4⟩) (fun _ => hHeld) ?_
  case hy4 => (intro w hSw; go_simp; try with_reducible rfl)
  try simp only [Act.put, List.setIfInBounds_toArray, List.set_cons_zero, List.set_cons_succ]
  refine wpAnyK_take 4 [7, 10] (v := ?v5) rfl (by kernel_rfl) (fun _ _ _ h => h) (Or.inl ⟨by rfl, ?hy5⟩) hHeld ?_
  case hy5 => (intro w hSw; (try dsimp only at hSw); go_simp; try with_reducible rfl)
  try simp only [Act.put, List.setIfInBounds_toArray, List.set_cons_zero, List.set_cons_succ]
  refine wpAnyK_take 5 [6, 7, 10] (v := ?v6) rfl (by kernel_rfl) (fun _ _ _ h => h) (Or.inl ⟨by rfl, ?hy6⟩) hHeld ?_
  case hy6 => (intro w hSw; (try dsimp only at hSw); go_simp; try with_reducible rfl)
  try simp only [Act.put, List.setIfInBounds_toArray, List.set_cons_zero, List.set_cons_succ]
  refine wpAnyK_step 6 rfl (by kernel_rfl) (fun K9 hK => ?_)
  go_simp
  have HBB : Hid (Below B wv (wv.drew.alloc (Obj.cells #[.int .i64 n.kind, .string ⟨s.key.toArray⟩, .string ⟨n.text.toArray⟩, .bool n.whole, .int .i64 n.int, .int .i64 n.kids] 37))) := (alloc_below_drew wv _).mono HR1.out.blo
  have HSB : Hid (RS B (wv.drew.alloc (Obj.cells #[.int .i64 n.kind, .string ⟨s.key.toArray⟩, .string ⟨n.text.toArray⟩, .bool n.whole, .int .i64 n.int, .int .i64 n.kids] 37)) b t { s with key := [] } nv ov mb c q) := HR1.out.below (alloc_below_drew wv _)
  have HTB : Hid (Bl 37 (wv.drew.alloc (Obj.cells #[.int .i64 n.kind, .string ⟨s.key.toArray⟩, .string ⟨n.text.toArray⟩, .bool n.whole, .int .i64 n.int, .int .i64 n.kids] 37)) bx (nC { n with key := s.key })) := HN1.out.below (alloc_below_drew wv _) HN1.out.lt
  have HNB : Hid (Bl 37 (wv.drew.alloc (Obj.cells #[.int .i64 n.kind, .string ⟨s.key.toArray⟩, .string ⟨n.text.toArray⟩, .bool n.whole, .int .i64 n.int, .int .i64 n.kids] 37)) wv.heap.size (nC { n with key := s.key })) := alloc_bl wv.drew _ _
  have HNW : Hid (∀ j u, (nC { n with key := s.key })[j]? = some u → (wv.drew.alloc (Obj.cells #[.int .i64 n.kind, .string ⟨s.key.toArray⟩, .string ⟨n.text.toArray⟩, .bool n.whole, .int .i64 n.int, .int .i64 n.kids] 37)).cell? ((⟨wv.heap.size, 0, none⟩ : Addr).add j) = some u) := fun j u hu => by (obtain ⟨hlt, e⟩ := List.getElem?_eq_some_iff.1 hu; rw [Addr.add_mid, Nat.zero_add, ← e]; exact HNB.out.cell j hlt)
  have HKB : Hid ((fun (w' : World) => w'.cell? ⟨b, 3, none⟩ = some nv ∧ w'.cell? ⟨bx, 0, none⟩ = some (.int .i64 n.kind) ∧ w'.cell? ⟨bx, 1, none⟩ = some (.string ⟨s.key.toArray⟩) ∧ w'.cell? ⟨bx, 2, none⟩ = some (.string ⟨n.text.toArray⟩) ∧ w'.cell? ⟨bx, 3, none⟩ = some (.bool n.whole) ∧ w'.cell? ⟨bx, 4, none⟩ = some (.int .i64 n.int) ∧ w'.cell? ⟨bx, 5, none⟩ = some (.int .i64 n.kids)) (wv.drew.alloc (Obj.cells #[.int .i64 n.kind, .string ⟨s.key.toArray⟩, .string ⟨n.text.toArray⟩, .bool n.whole, .int .i64 n.int, .int .i64 n.kids] 37))) := ⟨HSB.out.rb.c3, HTB.out.cell 0 (by rw [nC_length]; omega), HTB.out.cell 1 (by rw [nC_length]; omega), HTB.out.cell 2 (by rw [nC_length]; omega), HTB.out.cell 3 (by rw [nC_length]; omega), HTB.out.cell 4 (by rw [nC_length]; omega), HTB.out.cell 5 (by rw [nC_length]; omega)⟩
  refine hK.out _ _ ?hk7 ?_
  case hk7 => exact fun _ => HKB.out
  have hHeld : (fun (w' : World) => w'.cell? ⟨b, 3, none⟩ = some nv ∧ w'.cell? ⟨bx, 0, none⟩ = some (.int .i64 n.kind) ∧ w'.cell? ⟨bx, 1, none⟩ = some (.string ⟨s.key.toArray⟩) ∧ w'.cell? ⟨bx, 2, none⟩ = some (.string ⟨n.text.toArray⟩) ∧ w'.cell? ⟨bx, 3, none⟩ = some (.bool n.whole) ∧ w'.cell? ⟨bx, 4, none⟩ = some (.int .i64 n.int) ∧ w'.cell? ⟨bx, 5, none⟩ = some (.int .i64 n.kids)) _ := HKB.out
  clear hK
  try simp only [Act.put, List.setIfInBounds_toArray, List.set_cons_zero, List.set_cons_succ]
  refine wpAnyK_step 7 rfl (by kernel_rfl) (fun K9 hK => ?_)
  rw [if_pos (by rfl)]
  refine wp_append_own_wide _ (.tmp 17) (.tmp 19) 23 rfl B 37 i1 (.agg #[.int .i64 0, .string ⟨#[]⟩, .string ⟨#[]⟩, .bool false, .int .i64 0, .int .i64 0]) 6 64 Tryz.underlying23 hj hy0 hy1 hy2 rfl (by decide) nv s.nodes.length (nCs s.nodes) rfl HSB.out.nod ⟨wv.heap.size, 0, none⟩ 1 1 (nC { n with key := s.key }) rfl rfl HNW.out (by intro u hu; simp [nC] at hu; rcases hu with rfl | rfl | rfl | rfl | rfl | rfl <;> rfl) (by unfold maxLen; omega) (by omega) HSB.out.blo ?_
  intro vZ wY hownZ hgrowZ hnilZ
  have HSZ : Hid (RS B (wY.setCell ⟨b, 3, none⟩ vZ) b t { s with key := [], nodes := s.nodes ++ [{ n with key := s.key }] } vZ ov mb c q) := HSB.out.push (n := { n with key := s.key }) hownZ hgrowZ
  have HBZ : Hid (Below B w (wY.setCell ⟨b, 3, none⟩ vZ)) := (HB1.out.trans HBB.out).trans (HSB.out.push_below hgrowZ)
  have HRY : Hid (RB wY b t s.pos ⟨.int .i64 (s.aw : Int), nv, ov, .string ⟨#[]⟩, .map (some mb)⟩ c q) := bl_grown HSB.out.rb hgrowZ (block_apart HSB.out.nod HSB.out.rb hne_nr)
  have HTY : Hid (Bl 37 wY bx (nC { n with key := s.key })) := bl_grown HTB.out hgrowZ (fun e => HNX.out e)
  have cY : wY.cell? ⟨b, 3, none⟩ = some nv := HRY.out.c3
  have fY := HRY.out.fz 3
  have HKY : Hid ((fun (w' : World) => w'.cell? ⟨b, 3, none⟩ = some nv ∧ w'.cell? ⟨bx, 0, none⟩ = some (.int .i64 n.kind) ∧ w'.cell? ⟨bx, 1, none⟩ = some (.string ⟨s.key.toArray⟩) ∧ w'.cell? ⟨bx, 2, none⟩ = some (.string ⟨n.text.toArray⟩) ∧ w'.cell? ⟨bx, 3, none⟩ = some (.bool n.whole) ∧ w'.cell? ⟨bx, 4, none⟩ = some (.int .i64 n.int) ∧ w'.cell? ⟨bx, 5, none⟩ = some (.int .i64 n.kids)) wY) := ⟨cY, HTY.out.cell 0 (by rw [nC_length]; omega), HTY.out.cell 1 (by rw [nC_length]; omega), HTY.out.cell 2 (by rw [nC_length]; omega), HTY.out.cell 3 (by rw [nC_length]; omega), HTY.out.cell 4 (by rw [nC_length]; omega), HTY.out.cell 5 (by rw [nC_length]; omega)⟩
  obtain ⟨aZ, kZ, rfl, _, _⟩ := own_slice hownZ
  obtain ⟨aL, kL, rfl, _, _⟩ := own_slice HR1.out.nod
  clear hownZ hgrowZ hnilZ
  refine hK.out _ _ ?hk8 ?_
  case hk8 => exact fun _ => HKY.out
  have hHeld : (fun (w' : World) => w'.cell? ⟨b, 3, none⟩ = some (.slice aL s.nodes.length kL) ∧ w'.cell? ⟨bx, 0, none⟩ = some (.int .i64 n.kind) ∧ w'.cell? ⟨bx, 1, none⟩ = some (.string ⟨s.key.toArray⟩) ∧ w'.cell? ⟨bx, 2, none⟩ = some (.string ⟨n.text.toArray⟩) ∧ w'.cell? ⟨bx, 3, none⟩ = some (.bool n.whole) ∧ w'.cell? ⟨bx, 4, none⟩ = some (.int .i64 n.int) ∧ w'.cell? ⟨bx, 5, none⟩ = some (.int .i64 n.kids)) _ := HKY.out
  clear hK
  try simp only [Act.put, List.setIfInBounds_toArray, List.set_cons_zero, List.set_cons_succ]
  refine wpAnyK_take0 8 (v := ?v9) rfl (by kernel_rfl) (fun _ _ _ h => h) (Or.inl ⟨by rfl, ?hy9⟩) (fun _ => hHeld) ?_
  case hy9 => (intro w hSw; go_simp; try with_reducible rfl)
  try simp only [Act.put, List.setIfInBounds_toArray, List.set_cons_zero, List.set_cons_succ]
  refine wpAnyK_take0 9 (v := ?v10) rfl (by kernel_rfl) (fun _ _ _ h => h) (Or.inl ⟨by rfl, ?hy10⟩) (fun _ => hHeld) ?_
  case hy10 => (intro w hSw; go_simp; try with_reducible rfl)
  try simp only [Act.put, List.setIfInBounds_toArray, List.set_cons_zero, List.set_cons_succ]
  refine wpAnyK_step 10 rfl (by kernel_rfl) (fun K hK => ?_)
  go_simp
  refine hK.out _ _ ?hk11 ?_
  case hk11 => exact (fun h => nomatch (h.symm.trans (show _ = true by kernel_rfl)))
  clear hK K
  try simp only [Act.put, List.setIfInBounds_toArray, List.set_cons_zero, List.set_cons_succ]
  refine wpAnyK_done (by kernel_rfl) ?_ _
  generalize (wY.setCell ⟨b, 3, none⟩ (.slice aZ (s.nodes.length + 1) kZ)) = wZ at *
  clear e0 e1 e2 e3 e4 e5 c3 cY fY HRY HTY HKY HKB HNB HTB HSB HBB hHeld
  have c4 := HSZ.out.rb.c4
  simp only at c4
  by_cases ho : s.opn = []
  · have HAD := HADn.out ho
    have HAD' : Hid (addF n s = endF { s with key := [], nodes := s.nodes ++ [{ n with key := s.key }] }) := HAD
    obtain ⟨a4, k4, e4, hk4, _⟩ := own_slice HSZ.out.opn
    simp only [ho, List.length_nil] at e4 hk4
    subst e4
    have C := ended_any HSZ.out (by intro i hi; simp only [ho] at hi; simp at hi) (by simp [ho]) (by show (s.nodes ++ [_]).length ≤ _; rw [List.length_append, List.length_singleton]; omega)
    clear HAD ho
    go_wp2_with fail
    refine C.mono ?_
    rintro e wE ⟨rfl, hBE, hRE⟩
    go_wp2
    go_ret
    rw [HAD'.out]
    exact ⟨rfl, HBZ.out.trans (HSZ.out.bel hBE), _, hRE⟩
  · obtain ⟨xs, i, hox⟩ := snoc_of ho
    have hi0 : i < s.nodes.length := HOP.out i (by rw [hox]; simp)
    have HAD := HADi.out xs i hox
    have HAD' : Hid (addF n s = endF { s with nodes := kidUp (s.nodes ++ [{ n with key := s.key }]) i, key := [] }) := HAD
    have hxl : xs.length ≤ 1000 := by rw [hox] at hol; simp at hol; omega
    obtain ⟨go, co, e4, hco, _⟩ := HSZ.out.last (xs := xs) (i := i) hox
    subst e4
    have hq0 : decide (((xs.length + 1 : Nat) : Int) > 0) = true := decide_eq_true (by omega)
    have hi1 : i < (s.nodes ++ [{ n with key := s.key }]).length := by rw [List.length_append, List.length_singleton]; omega
    obtain ⟨gn, cn, e3, hcn, hcell⟩ := HSZ.out.node (i := i) hi1
    have e3' : Value.slice aZ (s.nodes.length + 1) kZ = Value.slice (some ⟨gn, 0, none⟩) (s.nodes.length + 1) cn := by rw [e3]; simp
    obtain ⟨ea, ek⟩ : aZ = some ⟨gn, 0, none⟩ ∧ kZ = cn := by cases e3'; exact ⟨rfl, rfl⟩
    subst ea
    subst ek
    obtain ⟨M, hM⟩ : ∃ M, ((s.nodes ++ [{ n with key := s.key }]).getD i (nd0 0)).kids = M := ⟨_, rfl⟩
    have hcM := hcell 5 (.int .i64 M) (by omega) (by rw [← hM]; rfl)
    have hcM1 := hcM.1
    have hcM2 := hcM.2
    have hMb : 0 ≤ M ∧ M ≤ 1000000000 := by
      have hmem : (s.nodes ++ [{ n with key := s.key }]).getD i (nd0 0) ∈ s.nodes := by
        rw [List.getD_eq_getElem?_getD, List.getElem?_append_left hi0, List.getElem?_eq_getElem hi0]
        exact List.getElem_mem hi0
      have := HKD.out _ hmem
      rw [hM] at this
      omega
    have hi2 : (i : Int) < (s.nodes.length : Int) + 1 := by omega
    have hM0 := hMb.1
    have hM1 := hMb.2
    have HSK : Hid (RS B (wZ.setCell ⟨gn, i * 6 + 5, none⟩ (.int .i64 (M + 1))) b t { s with nodes := kidUp (s.nodes ++ [{ n with key := s.key }]) i, key := [] } (.slice (some ⟨gn, 0, none⟩) (s.nodes.length + 1) kZ) (.slice (some ⟨go, 0, none⟩) (xs.length + 1) co) mb c q ∧ Below B wZ (wZ.setCell ⟨gn, i * 6 + 5, none⟩ (.int .i64 (M + 1)))) := by
      have hl1 : (s.nodes ++ [{ n with key := s.key }]).length = s.nodes.length + 1 := by simp
      have h0 := HSZ.out
      rw [← hl1] at h0
      have := h0.kid (i := i) (v := M + 1) hi1
      rw [← hM, modify_eq hi1, hM, hl1] at this
      exact this
    have HCI : Hid (∀ wq, RS B wq b t { s with key := [], nodes := s.nodes ++ [{ n with key := s.key }] } (.slice (some ⟨gn, 0, none⟩) (s.nodes.length + 1) kZ) (.slice (some ⟨go, 0, none⟩) (xs.length + 1) co) mb c q → Calls Tryz.prog 52 #[.pointer (some ⟨b, 0, none⟩)] wq fun e w' => e = .returned (.int .i64 (i : Int)) ∧ ∃ m, w' = wq.drewN m) := fun wq hq => innermost_any hq hox hxl
    have c3 := HSZ.out.rb.c3
    simp only at c3
    clear e3 e3' hcell hcM hM HAD hox ho hMb
    go_wp2
    refine wp_region_K 12 (fun (w' : World) => w'.cell? ⟨b, 3, none⟩ = some (.slice (some ⟨gn, 0, none⟩) (s.nodes.length + 1) kZ) ∧ w'.cell? ⟨gn, i * 6 + 5, none⟩ = some (.int .i64 M)) (by kernel_rfl) ?_
    have hHeld : ((fun (w' : World) => w'.cell? ⟨b, 3, none⟩ = some (.slice (some ⟨gn, 0, none⟩) (s.nodes.length + 1) kZ) ∧ w'.cell? ⟨gn, i * 6 + 5, none⟩ = some (.int .i64 M))) (World.drew _) := ⟨c3, hcM1⟩
    refine wpAnyK_take0 0 (v := ?v12) rfl (by kernel_rfl) (fun _ _ _ h => h) (Or.inl ⟨by rfl, ?hy12⟩) (fun _ => hHeld) ?_
    case hy12 => (intro w hSw; go_simp; try with_reducible rfl)
    try simp only [Act.put, List.setIfInBounds_toArray, List.set_cons_zero, List.set_cons_succ]
    refine wpAnyK_take0 1 (v := ?v13) rfl (by kernel_rfl) (fun _ _ _ h => h) (Or.inl ⟨by rfl, ?hy13⟩) (fun _ => hHeld) ?_
    case hy13 => (intro w hSw; go_simp; try with_reducible rfl)
    try simp only [Act.put, List.setIfInBounds_toArray, List.set_cons_zero, List.set_cons_succ]
    refine wpAnyK_take0 2 (v := ?v14) rfl (by kernel_rfl) (fun _ _ _ h => h) (Or.inl ⟨by rfl, ?hy14⟩) (fun _ => hHeld) ?_
    case hy14 => (intro w hSw; go_simp; try with_reducible rfl)
    try simp only [Act.put, List.setIfInBounds_toArray, List.set_cons_zero, List.set_cons_succ]
    refine wpAnyK_take 3 [10, 11, 12] (v := ?v15) rfl (by kernel_rfl) (fun _ _ _ h => h) (Or.inl ⟨by rfl, ?hy15⟩) hHeld ?_
    case hy15 => (intro w hSw; (try dsimp only at hSw); go_simp; try with_reducible rfl)
    try simp only [Act.put, List.setIfInBounds_toArray, List.set_cons_zero, List.set_cons_succ]
    refine wpAnyK_take0 4 (v := ?v16) rfl (by kernel_rfl) (fun _ _ _ h => h) (Or.inl ⟨by rfl, ?hy16⟩) (fun _ => hHeld) ?_
    case hy16 => (intro w hSw; go_simp; try with_reducible rfl)
    try simp only [Act.put, List.setIfInBounds_toArray, List.set_cons_zero, List.set_cons_succ]
    refine wpAnyK_step 5 rfl (by kernel_rfl) (fun K9 hK => ?_)
    go_simp
    refine (HCI.out _ (HSZ.out.drewN 1)).mono ?_
    rintro e w9 ⟨rfl, m9, rfl⟩
    dsimp only
    refine hK.out _ _ ?hk17 ?_
    case hk17 => exact fun _ => ⟨c3, hcM1⟩
    have hHeld : ((fun (w' : World) => w'.cell? ⟨b, 3, none⟩ = some (.slice (some ⟨gn, 0, none⟩) (s.nodes.length + 1) kZ) ∧ w'.cell? ⟨gn, i * 6 + 5, none⟩ = some (.int .i64 M))) _ := ⟨c3, hcM1⟩
    clear hK
    try simp only [Act.put, List.setIfInBounds_toArray, List.set_cons_zero, List.set_cons_succ]
    refine wpAnyK_take0 6 (v := ?v18) rfl (by kernel_rfl) (fun _ _ _ h => h) (Or.inl ⟨by rfl, ?hy18⟩) (fun _ => hHeld) ?_
    case hy18 => (intro w hSw; go_simp; (try rw [if_pos hi2]); try with_reducible rfl)
    try simp only [Act.put, List.setIfInBounds_toArray, List.set_cons_zero, List.set_cons_succ]
    refine wpAnyK_take0 7 (v := ?v19) rfl (by kernel_rfl) (fun _ _ _ h => h) (Or.inl ⟨by rfl, ?hy19⟩) (fun _ => hHeld) ?_
    case hy19 => (intro w hSw; go_simp; try with_reducible rfl)
    try simp only [Act.put, List.setIfInBounds_toArray, List.set_cons_zero, List.set_cons_succ]
    refine wpAnyK_take 8 [9, 12] (v := ?v20) rfl (by kernel_rfl) (fun _ _ _ h => h) (Or.inl ⟨by rfl, ?hy20⟩) hHeld ?_
    case hy20 => (intro w hSw; (try dsimp only at hSw); go_simp; try with_reducible rfl)
    try simp only [Act.put, List.setIfInBounds_toArray, List.set_cons_zero, List.set_cons_succ]
    refine wpAnyK_take0 9 (v := ?v21) rfl (by kernel_rfl) (fun _ _ _ h => h) (Or.inl ⟨by rfl, ?hy21⟩) (fun _ => hHeld) ?_
    case hy21 => (intro w hSw; go_simp; try with_reducible rfl)
    try simp only [Act.put, List.setIfInBounds_toArray, List.set_cons_zero, List.set_cons_succ]
    refine wpAnyK_take0 10 (v := ?v22) rfl (by kernel_rfl) (fun _ _ _ h => h) (Or.inl ⟨by rfl, ?hy22⟩) (fun _ => hHeld) ?_
    case hy22 => (intro w hSw; go_simp; (try rw [if_pos hi2]); try with_reducible rfl)
    try simp only [Act.put, List.setIfInBounds_toArray, List.set_cons_zero, List.set_cons_succ]
    refine wpAnyK_take0 11 (v := ?v23) rfl (by kernel_rfl) (fun _ _ _ h => h) (Or.inl ⟨by rfl, ?hy23⟩) (fun _ => hHeld) ?_
    case hy23 => (intro w hSw; go_simp; try with_reducible rfl)
    try simp only [Act.put, List.setIfInBounds_toArray, List.set_cons_zero, List.set_cons_succ]
    have fM : ((wZ.drewN 1).drewN m9).frozen? ⟨gn, i * 6 + 5, none⟩ = false := hcM2
    refine wpAnyK_step 12 rfl (by kernel_rfl) (fun K hK => ?_)
    go_simp
    refine hK.out _ _ ?hk25 ?_
    case hk25 => exact (fun h => nomatch (h.symm.trans (show _ = true by kernel_rfl)))
    clear hK K
    try simp only [Act.put, List.setIfInBounds_toArray, List.set_cons_zero, List.set_cons_succ]
    refine wpAnyK_done (by kernel_rfl) ?_ _
    have HSL : Hid (RS B ((wZ.drewN (1 + m9)).setCell ⟨gn, i * 6 + 5, none⟩ (.int .i64 (M + 1))) b t { s with nodes := kidUp (s.nodes ++ [{ n with key := s.key }]) i, key := [] } (.slice (some ⟨gn, 0, none⟩) (s.nodes.length + 1) kZ) (.slice (some ⟨go, 0, none⟩) (xs.length + 1) co) mb c q) := HSK.out.1.drewN (1 + m9)
    have C := ended_any HSL.out (by intro j hj; have := HOP.out j hj; show j < (kidUp _ _).length; rw [kidUp_length, List.length_append, List.length_singleton]; omega) hol (by show (kidUp _ _).length ≤ _; rw [kidUp_length, List.length_append, List.length_singleton]; omega)
    go_wp2_with fail
    refine C.mono ?_
    rintro e wE ⟨rfl, hBE, hRE⟩
    go_wp2
    go_ret
    rw [HAD'.out]
    refine ⟨rfl, ?_, _, hRE⟩
    exact (HBZ.out.trans (below_drewN HSK.out.2 (1 + m9))).trans (HSL.out.bel hBE)

end Go.Proofs.YtjehkpndchadbaaGreatDoor
