import Derived.Test.YtcdcfgkgighmhaaGreatDoorSZ
import Derived.Test.YtcdcfgkgighmhaaGreatDoorJZ
import Derived.WalkSmall
namespace Go.Proofs.YtcdcfgkgighmhaaGreatDoor
open Go.RowKit Go.Shelf

/-- What stands ahead of all memory of one's own: the tables of unicode/utf8, strconv's two errors. -/
structure GL (B : Nat) (w : World) : Prop where
  hi : 8 ≤ B
  u8 : U8 w
  er : ∃ t1 p1 t2 p2, w.var? Tryz.prog "strconv.ErrSyntax" = some #[.iface t1 p1] ∧ w.var? Tryz.prog "strconv.ErrRange" = some #[.iface t2 p2]
theorem GL.below {B : Nat} {w w' : World} (h : GL B w) (hb : Below B w w') : GL B w' := by
  have h8 := h.hi
  refine ⟨h.hi, ⟨fun c hc => cell_but (h.u8.1 c hc) fun _ => hb.block _ (by omega), fun i hi => ⟨cell_but (h.u8.2 i hi).1 fun _ => hb.block _ (by omega), cell_but (h.u8.2 i hi).2 fun _ => hb.block _ (by omega)⟩⟩, ?_⟩
  obtain ⟨t1, p1, t2, p2, e1, e2⟩ := h.er
  exact ⟨t1, p1, t2, p2, var?_below hb (g := 4) (by kernel_rfl) (by omega) e1, var?_below hb (g := 5) (by kernel_rfl) (by omega) e2⟩

def iV (i : Nat) : Value := .int .i64 (i : Int)

/-- The reader, and all that it has. -/
structure RS (B : Nat) (w : World) (b : Nat) (t : List UInt8) (s : JS) (nv ov : Value) (mb : Nat) (c q : Int) : Prop where
  lo : B ≤ b
  mlo : B ≤ mb
  blo : B ≤ w.heap.size
  rb : RB w b t s.pos ⟨.int .i64 (s.aw : Int), nv, ov, .string ⟨s.key.toArray⟩, .map (some mb)⟩ c q
  nod : w.ownsRow B 59 6 nv s.nodes.length (nCs s.nodes)
  opn : w.ownsRow B 3 1 ov s.opn.length (s.opn.map iV)
  met : Mp w mb s.met

theorem Mp.lt {w : World} {mb : Nat} {l : List (Nat × List UInt8)} (h : Mp w mb l) : mb < w.heap.size := by
  obtain ⟨es, clk, hw, _⟩ := h
  exact (Array.getElem?_eq_some_iff.1 hw).1
theorem Mp.keep {w w' : World} {mb : Nat} {l : List (Nat × List UInt8)} (h : Mp w mb l) (hk : w'.heap[mb]? = w.heap[mb]?) : Mp w' mb l := by
  obtain ⟨es, clk, hw, r⟩ := h
  exact ⟨es, clk, by rw [hk]; exact hw, r⟩
theorem Mp.ne_bl {w : World} {mb b : Nat} {l : List (Nat × List UInt8)} {t : TypeId} {vs : List Value} (h : Mp w mb l) (h2 : Bl t w b vs) : mb ≠ b := by
  obtain ⟨es, clk, hw, _⟩ := h
  intro e
  subst e
  unfold Bl at h2
  rw [hw] at h2
  cases h2
theorem Mp.ne_own {w : World} {mb base n size : Nat} {l : List (Nat × List UInt8)} {e : TypeId} {v : Value} {xs : List Value} (h : Mp w mb l) (h2 : w.ownsRow base e size v n xs) : v.ownBlock ≠ some mb := by
  obtain ⟨es, clk, hw, _⟩ := h
  intro hg
  obtain ⟨cur, hc⟩ := own_type h2 hg
  rw [hw] at hc
  cases hc

theorem hne_nr : 59 ≠ 75 := by decide
theorem hne_ir : 3 ≠ 75 := by decide
theorem hne_ni : 59 ≠ 3 := by decide
theorem hne_in : 3 ≠ 59 := by decide

/-- Only the reader's own block has changed. -/
theorem RS.but {B : Nat} {w w' : World} {b : Nat} {t : List UInt8} {s s' : JS} {nv ov : Value} {mb : Nat} {c q c' q' : Int} (h : RS B w b t s nv ov mb c q) (hb : But w w' b)
    (hr : RB w' b t s'.pos ⟨.int .i64 (s'.aw : Int), nv, ov, .string ⟨s'.key.toArray⟩, .map (some mb)⟩ c' q') (h1 : s'.nodes = s.nodes) (h2 : s'.opn = s.opn) (h3 : s'.met = s.met) : RS B w' b t s' nv ov mb c' q' :=
  ⟨h.lo, h.mlo, Nat.le_trans h.blo hb.size, hr, by rw [h1]; exact own_but h.nod h.rb hne_nr hb, by rw [h2]; exact own_but h.opn h.rb hne_ir hb, by rw [h3]; exact h.met.keep (hb.block mb h.met.lt (h.met.ne_bl h.rb))⟩
theorem RS.bel {B : Nat} {w w' : World} {b : Nat} {t : List UInt8} {s : JS} {nv ov : Value} {mb : Nat} {c q : Int} (h : RS B w b t s nv ov mb c q) (hb : But w w' b) : Below B w w' := hb.below h.blo h.lo
/-- Nothing old has changed. -/
theorem RS.below {B : Nat} {w w' : World} {b : Nat} {t : List UInt8} {s : JS} {nv ov : Value} {mb : Nat} {c q : Int} (h : RS B w b t s nv ov mb c q) (hb : Below w.heap.size w w') : RS B w' b t s nv ov mb c q :=
  ⟨h.lo, h.mlo, Nat.le_trans h.blo hb.size, h.rb.below hb (Nat.le_refl _), own_below h.nod hb (Nat.le_refl _), own_below h.opn hb (Nat.le_refl _), h.met.keep (hb.block mb h.met.lt)⟩
theorem RS.drewN {B : Nat} {w : World} {b : Nat} {t : List UInt8} {s : JS} {nv ov : Value} {mb : Nat} {c q : Int} (h : RS B w b t s nv ov mb c q) (n : Nat) : RS B (w.drewN n) b t s nv ov mb c q :=
  ⟨h.lo, h.mlo, h.blo, h.rb.drewN n, h.nod, h.opn, h.met⟩

/-- The open ones' row where the last one is told. -/
theorem RS.last {B : Nat} {w : World} {b : Nat} {t : List UInt8} {s : JS} {nv ov : Value} {mb : Nat} {c q : Int} (h : RS B w b t s nv ov mb c q) {xs : List Nat} {i : Nat} (ho : s.opn = xs ++ [i]) :
    ∃ g cap, ov = .slice (some ⟨g, 0, none⟩) (xs.length + 1) cap ∧ xs.length + 1 ≤ cap ∧ w.cell? ⟨g, xs.length, none⟩ = some (iV i) := by
  have h1 := h.opn
  rw [ho] at h1
  rw [List.length_append, List.length_singleton] at h1
  obtain ⟨a, cap, e, hc, hg⟩ := own_slice h1
  obtain ⟨g, rfl⟩ := hg (by omega)
  subst e
  exact ⟨g, cap, rfl, hc, (own_cell h1 xs.length (iV i) (by simp)).1⟩

set_option maxHeartbeats 1000000 in
theorem innermost_any {B : Nat} {w : World} {b : Nat} {t : List UInt8} {s : JS} {nv ov : Value} {mb : Nat} {c q : Int} (h : RS B w b t s nv ov mb c q) {xs : List Nat} {i : Nat} (ho : s.opn = xs ++ [i]) (hl : xs.length ≤ 1000) :
    Calls Tryz.prog 72 #[.pointer (some ⟨b, 0, none⟩)] w fun e w' => e = .returned (.int .i64 (i : Int)) ∧ ∃ n, w' = w.drewN n := by
  obtain ⟨g, cap, rfl, hcap, hc⟩ := h.last ho
  have c4 := h.rb.c4
  unfold iV at hc
  clear h ho
  go_enter Tryz.func72, Tryz.ntmps72
  go_wp2
  go_quiet (fail)
  go_wp2
  go_ret
  exact ⟨rfl, _, rfl⟩

end Go.Proofs.YtcdcfgkgighmhaaGreatDoor
