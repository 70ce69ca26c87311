import Derived.Test.YtnccalbeidkeiabSpares1
namespace Go.Proofs.Ytnccalbeidkeiab
open Go.RowKit

/-- Six rows of bytes, each its own. -/
def Mem (w : World) (V : Nat → Value) (N : Nat → Nat) (L : Nat → List UInt8) : Prop := ∀ j, j < 6 → w.ownsRow 0 5 1 (V j) (N j) ((L j).map B)

/-- Each lies in a stretch of memory of its own. -/
def Sep (V : Nat → Value) (h : Nat → Nat) : Prop := (∀ j, j < 6 → ∀ g, (V j).ownBlock = some g → h j ≤ g ∧ g < h (j + 1)) ∧ ∀ i j, i ≤ j → h i ≤ h j

theorem Sep.ne {V : Nat → Value} {h : Nat → Nat} (H : Sep V h) {i j : Nat} (hi : i < 6) (hj : j < 6) (hij : i ≠ j) : (V j).ownBlock = none ∨ (V j).ownBlock ≠ (V i).ownBlock := by
  refine block_ne (H.1 j hj) fun g hg => ?_
  have h1 := H.1 i hi g hg
  rcases Nat.lt_or_ge i j with hlt | hge
  · have := H.2 (i + 1) j (by omega); omega
  · have := H.2 (j + 1) i (by omega); omega

theorem Sep.lt {V : Nat → Value} {h : Nat → Nat} (H : Sep V h) {i : Nat} (hi : i < 6) {g : Nat} (hg : (V i).ownBlock = some g) : g < h 6 := by
  have h1 := H.1 i hi g hg
  have h2 := H.2 (i + 1) 6 (by omega)
  omega

/-- The list at one place is another. -/
def upd (L : Nat → List UInt8) (i : Nat) (l : List UInt8) : Nat → List UInt8 := fun j => if j = i then l else L j

theorem Mem.grown {w w' : World} {V : Nat → Value} {h N : Nat → Nat} {L : Nat → List UInt8} (M : Mem w V N L) (S : Sep V h) {i : Nat} (hi : i < 6) {l : List UInt8} (hg : w.grownBy w' (V i).ownBlock) (hown : w'.ownsRow 0 5 1 (V i) (N i) (l.map B)) : Mem w' V N (upd L i l) := by
  intro j hj
  unfold upd
  by_cases e : j = i
  · subst e; rw [if_pos rfl]; exact hown
  · rw [if_neg e]
    exact (M j hj).kept hg (S.ne hi hj (fun h => e h.symm))

theorem Mem.quiet {w w' : World} {V : Nat → Value} {N : Nat → Nat} {L : Nat → List UInt8} (M : Mem w V N L) (hg : w.grownBy w' none) : Mem w' V N L := fun j hj => (M j hj).kept hg (by cases (V j).ownBlock <;> simp)

theorem Mem.below {w w' : World} {V : Nat → Value} {N : Nat → Nat} {L : Nat → List UInt8} (M : Mem w V N L) (hb : Below w.heap.size w w') : Mem w' V N L := fun j hj => own_below (M j hj) hb

theorem kept_ne {w w' : World} {e : TypeId} {v : Value} {n : Nat} {xs : List Value} {r : Option Nat} (h : w.ownsRow 0 e 1 v n xs) (hg : w.grownBy w' r) (hne : ∀ g, v.ownBlock = some g → r ≠ some g) : w'.ownsRow 0 e 1 v n xs := by
  refine h.kept hg ?_
  cases hv : v.ownBlock with
  | none => exact .inl rfl
  | some g => exact .inr (fun e => hne g hv e.symm)

theorem grown_fresh {a b c : World} {r : Option Nat} {g : Nat} (h1 : a.grownBy b r) (h2 : b.grownBy c (some g)) (hg : a.heap.size ≤ g) : a.grownBy c r :=
  ⟨h2.os.trans h1.os, h2.tape.trans h1.tape, h2.output.trans h1.output, Nat.le_trans h1.size h2.size, fun k hk hne => (h2.block k (Nat.lt_of_lt_of_le hk h1.size) (fun e => by injection e with e; omega)).trans (h1.block k hk hne)⟩

/-- One more byte behind a slice v that began as v0: what was known of v0 stays. -/
theorem more_step {wi wr : World} {v v0 : Value} {n n0 : Nat} {xs x0 : List Value} (y : Value) (hy : y.oneCell' = true) (hown : wr.ownsRow 0 5 1 v n xs) (hown0 : wr.ownsRow 0 5 1 v0 n0 x0) (hn0 : n0 ≤ n) (hgr : wi.grownBy wr v0.ownBlock) (hlt : ∀ g, v0.ownBlock = some g → g < wi.heap.size)
    (hblk : v.ownBlock = v0.ownBlock ∨ ∃ g, v.ownBlock = some g ∧ wi.heap.size ≤ g) (hb : n + 1 ≤ 140737488355328) :
    ∃ v' w', (Builtin.append_ #[23, 23] 23 #[v, .slice (some ⟨wr.heap.size, 0, none⟩) 1 1]).run Try.prog (wr.alloc (.cells #[y] 5)) = .ok v' w' ∧ w'.ownsRow 0 5 1 v' (n + 1) (xs ++ [y]) ∧ w'.ownsRow 0 5 1 v0 n0 x0 ∧ wi.grownBy w' v0.ownBlock ∧ (v'.ownBlock = v0.ownBlock ∨ ∃ g, v'.ownBlock = some g ∧ wi.heap.size ≤ g) := by
  obtain ⟨i0, hi, hz0, hz1, hz2⟩ := info_parts Try.infoB
  have ha : wr.grownBy (wr.alloc (.cells #[y] 5)) v0.ownBlock := World.grownBy_alloc _ _ _
  obtain ⟨v', w', hrun, h1, h2, h3, h4⟩ := append_keep (wr.alloc (.cells #[y] 5)) 23 5 23 i0 (.int .u8 0) 1 Try.underlying23 hi hz0 hz1 hz2 rfl v n xs (hown.alloc _) ⟨wr.heap.size, 0, none⟩ y (by rw [World.cell?_alloc_at _ _ _ _ rfl]; rfl) hy (by omega) (by unfold maxLen; omega)
  refine ⟨v', w', hrun, h1, ?_, ?_, ?_⟩
  · rcases hblk with e | ⟨g, e, hg⟩
    · exact h4 v0 n0 x0 hn0 e.symm (hown0.alloc _)
    · refine kept_ne (hown0.alloc _) h2 fun g0 hg0 => ?_
      rw [e]
      have := hlt g0 hg0
      intro e2
      injection e2 with e2
      omega
  · rcases hblk with e | ⟨g, e, hg⟩
    · rw [e] at h2; exact grownBy.trans (grownBy.trans hgr ha) h2
    · rw [e] at h2; exact grown_fresh (grownBy.trans hgr ha) h2 hg
  · rcases h3 with e | ⟨g, e, hg⟩
    · rcases hblk with e1 | ⟨g, e1, hg⟩
      · exact .inl (e.trans e1)
      · exact .inr ⟨g, e.trans e1, hg⟩
    · have hs1 := hgr.size
      have hs2 : (wr.alloc (.cells #[y] 5)).heap.size = wr.heap.size + 1 := by simp
      exact .inr ⟨g, e, by omega⟩

theorem Try.infoS : (Try.prog.info? 23).map (fun i => (i.zero, i.size, i.bytes)) = some (some (.slice none 0 0), 1, 24) := by kernel_rfl

/-- A slice put behind a list of slices. -/
theorem long_step {wr : World} {vl v : Value} {n : Nat} {xs : List Value} (hv : v.oneCell' = true) (hown : wr.ownsRow 0 23 1 vl n xs) (hn : n ≤ 1000) :
    ∃ v' w', (Builtin.append_ #[29, 29] 29 #[vl, .slice (some ⟨wr.heap.size, 0, none⟩) 1 1]).run Try.prog (wr.alloc (.cells #[v] 23)) = .ok v' w' ∧ w'.ownsRow 0 23 1 v' (n + 1) (xs ++ [v]) ∧ wr.grownBy w' vl.ownBlock ∧ (v'.ownBlock = vl.ownBlock ∨ ∃ g, v'.ownBlock = some g ∧ wr.heap.size ≤ g) := by
  obtain ⟨i0, hi, hz0, hz1, hz2⟩ := info_parts Try.infoS
  have ha : wr.grownBy (wr.alloc (.cells #[v] 23)) vl.ownBlock := World.grownBy_alloc _ _ _
  obtain ⟨v', w', hrun, h1, h2, h3, h4⟩ := append_keep (wr.alloc (.cells #[v] 23)) 29 23 29 i0 (.slice none 0 0) 24 Try.underlying29 hi hz0 hz1 hz2 rfl vl n xs (hown.alloc _) ⟨wr.heap.size, 0, none⟩ v (by rw [World.cell?_alloc_at _ _ _ _ rfl]; rfl) hv (by omega) (by unfold maxLen; omega)
  refine ⟨v', w', hrun, h1, grownBy.trans ha h2, ?_⟩
  rcases h3 with e | ⟨g, e, hg⟩
  · exact .inl e
  · have hs2 : (wr.alloc (.cells #[v] 23)).heap.size = wr.heap.size + 1 := by simp
    exact .inr ⟨g, e, by omega⟩

theorem own_cell {w : World} {e : TypeId} {v : Value} {n : Nat} {xs : List Value} (h : w.ownsRow 0 e 1 v n xs) : v.oneCell' = true := by
  rcases h.2 with ⟨rfl, _⟩ | ⟨g, cap, cur, rfl, _⟩ <;> rfl

theorem own_shape {w : World} {e : TypeId} {v : Value} {n : Nat} {xs : List Value} (h : w.ownsRow 0 e 1 v n xs) (hn : 0 < n) : ∃ g c, v = .slice (some ⟨g, 0, none⟩) n c := by
  rcases h.2 with ⟨_, rfl⟩ | ⟨g, cap, cur, e1, _⟩
  · omega
  · exact ⟨g, cap, e1⟩

/-- A slice that was grown: its bytes; where it lies; not where the list of slices does. -/
def Gro (w : World) (h5 : Nat) (V : Nat → Value) (N : Nat → Nat) (F : Nat → List UInt8) (vl : Value) (j : Nat) (u : Value) : Prop :=
  w.ownsRow 0 5 1 u (N j + 70) ((F j ++ List.replicate 70 (UInt8.ofNat (80 + j))).map B) ∧ (u.ownBlock = (V j).ownBlock ∨ ∃ g, u.ownBlock = some g ∧ h5 ≤ g) ∧ ∀ g, u.ownBlock = some g → vl.ownBlock ≠ some g

/-- The first i of the lists are filled. -/
def fil (N : Nat → Nat) (L : Nat → List UInt8) (i : Nat) : Nat → List UInt8 := fun j => if j < i then List.replicate (N j) (UInt8.ofNat (70 + j)) else L j

theorem fil_zero (N : Nat → Nat) (L : Nat → List UInt8) : fil N L 0 = L := by funext j; simp [fil]

theorem fil_succ (N : Nat → Nat) (L : Nat → List UInt8) (i : Nat) : upd (fil N L i) i (List.replicate (N i) (UInt8.ofNat (70 + i))) = fil N L (i + 1) := by
  funext j
  unfold upd fil
  by_cases e : j = i
  · subst e; simp
  · rw [if_neg e]
    by_cases h : j < i
    · rw [if_pos h, if_pos (by omega)]
    · rw [if_neg h, if_neg (by omega)]

set_option maxHeartbeats 8000000 in
set_option maxRecDepth 100000 in
theorem spares_any (s : List UInt8) (w : World) (hs : s.length ≤ 140737488351232) :
    Calls Try.prog 3 #[.string ⟨s.toArray⟩] w fun e w' => e = .returned (.bool true) ∧ Below w.heap.size w w' := by
  have hU := decU_len s
  have hS := decS_len s
  go_enter Try.func3, Try.ntmps3
  go_wp2_with fail
  refine (awake_any w).mono ?_
  rintro e w1 ⟨rfl, hb1⟩
  go_wp2_with fail
  refine (decode_any s w1 (by omega)).mono ?_
  rintro e w2 ⟨v, rfl, hv1, hb2⟩
  obtain ⟨a1, c1, rfl, hown1, iv1⟩ := hv1.own
  clear hv1
  go_wp2_with fail
  refine (decode_any s w2 (by omega)).mono ?_
  rintro e w3 ⟨v, rfl, hv2, hb3⟩
  obtain ⟨a2, c2, rfl, hown2, iv2⟩ := hv2.own
  clear hv2
  go_wp2_with fail
  refine (decodeStd_any s w3 (by omega)).mono ?_
  rintro e w4 ⟨v, rfl, hv3, hb4⟩
  obtain ⟨a3, c3, rfl, hown3, iv3⟩ := hv3.own
  clear hv3
  go_wp2_with fail
  refine (decodeStd_any s w4 (by omega)).mono ?_
  rintro e w5 ⟨v, rfl, hv4, hb5⟩
  obtain ⟨a4, c4, rfl, hown4, iv4⟩ := hv4.own
  clear hv4
  obtain ⟨e1, he1⟩ : ∃ e1, (decU s).2.1 = e1 := ⟨_, rfl⟩
  obtain ⟨p1, hp1⟩ : ∃ p1, (decU s).2.2 = p1 := ⟨_, rfl⟩
  obtain ⟨e2, he2⟩ : ∃ e2, (decS s).2.1 = e2 := ⟨_, rfl⟩
  obtain ⟨p2, hp2⟩ : ∃ p2, (decS s).2.2 = p2 := ⟨_, rfl⟩
  obtain ⟨x1, hx1⟩ : ∃ x1, (decU s).1.getD [] = x1 := ⟨_, rfl⟩
  obtain ⟨x2, hx2⟩ : ∃ x2, (decS s).1.getD [] = x2 := ⟨_, rfl⟩
  rw [hx1] at hU hown1 hown2 iv1 iv2
  rw [hx2] at hS hown3 hown4 iv3 iv4
  rw [he1, hp1, he2, hp2, hx1, hx2]
  have HE : Hid ((decU s).2.1 = e1 ∧ (decU s).2.2 = p1 ∧ (decS s).2.1 = e2 ∧ (decS s).2.2 = p2 ∧ (decU s).1.getD [] = x1 ∧ (decS s).1.getD [] = x2) := ⟨he1, hp1, he2, hp2, hx1, hx2⟩
  clear he1 hp1 he2 hp2 hx1 hx2
  have O1 : Hid (w5.ownsRow 0 5 1 (.slice a1 x1.length c1) x1.length (x1.map B)) := own_below (own_below (own_below hown1 hb3) hb4) hb5
  have O2 : Hid (w5.ownsRow 0 5 1 (.slice a2 x1.length c2) x1.length (x1.map B)) := own_below (own_below hown2 hb4) hb5
  have O3 : Hid (w5.ownsRow 0 5 1 (.slice a3 x2.length c3) x2.length (x2.map B)) := own_below hown3 hb5
  have O4 : Hid (w5.ownsRow 0 5 1 (.slice a4 x2.length c4) x2.length (x2.map B)) := hown4
  have IV : Hid ((∀ g, (Value.slice a1 x1.length c1).ownBlock = some g → w1.heap.size ≤ g ∧ g < w2.heap.size) ∧ (∀ g, (Value.slice a2 x1.length c2).ownBlock = some g → w2.heap.size ≤ g ∧ g < w3.heap.size) ∧ (∀ g, (Value.slice a3 x2.length c3).ownBlock = some g → w3.heap.size ≤ g ∧ g < w4.heap.size) ∧ (∀ g, (Value.slice a4 x2.length c4).ownBlock = some g → w4.heap.size ≤ g ∧ g < w5.heap.size)) := ⟨iv1, iv2, iv3, iv4⟩
  have HZ : Hid (w.heap.size ≤ w1.heap.size ∧ w1.heap.size ≤ w2.heap.size ∧ w2.heap.size ≤ w3.heap.size ∧ w3.heap.size ≤ w4.heap.size ∧ w4.heap.size ≤ w5.heap.size) := ⟨hb1.size, hb2.size, hb3.size, hb4.size, hb5.size⟩
  have hB5 : Below w.heap.size w w5 := hb1.trans ((hb2.mono hb1.size).trans ((hb3.mono (Nat.le_trans hb1.size hb2.size)).trans ((hb4.mono (Nat.le_trans hb1.size (Nat.le_trans hb2.size hb3.size))).trans (hb5.mono (Nat.le_trans hb1.size (Nat.le_trans hb2.size (Nat.le_trans hb3.size hb4.size)))))))
  clear hown1 hown2 hown3 hown4 iv1 iv2 iv3 iv4 hb1 hb2 hb3 hb4 hb5
  go_wp2_with fail
  refine (same_any a1 a2 c1 c2 x1 x1 w5 (own_read O1.out) (own_read O2.out) (by omega)).mono ?_
  rw [decide_eq_true (rfl : x1 = x1)]
  rintro e w6 ⟨rfl, q, hq⟩
  have P2 : Hid (w6 = w5.drewN q) := hq
  clear hq
  go_wp2_with fail
  refine (same_any a3 a4 c3 c4 x2 x2 w6 (by rw [P2.out]; exact own_read O3.out) (by rw [P2.out]; exact own_read O4.out) (by omega)).mono ?_
  rw [decide_eq_true (rfl : x2 = x2)]
  rintro e w7 ⟨rfl, q2, hq⟩
  have P3 : Hid (w7 = (w5.drewN q).drewN q2) := by show w7 = _; rw [hq, P2.out]
  clear hq P2
  have hz7 : w7.heap.size = w5.heap.size := by rw [P3.out]; rfl
  have Hz7 : Hid (w7.heap.size = w5.heap.size) := hz7
  have hB7 : Below w.heap.size w w7 := by rw [P3.out]; exact below_drewN (below_drewN hB5 q) q2
  have Q1 : Hid (w7.ownsRow 0 5 1 (.slice a1 x1.length c1) x1.length (x1.map B) ∧ w7.ownsRow 0 5 1 (.slice a2 x1.length c2) x1.length (x1.map B) ∧ w7.ownsRow 0 5 1 (.slice a3 x2.length c3) x2.length (x2.map B) ∧ w7.ownsRow 0 5 1 (.slice a4 x2.length c4) x2.length (x2.map B)) := by rw [P3.out]; exact ⟨O1.out, O2.out, O3.out, O4.out⟩
  clear O1 O2 O3 O4 P3 hB5 hz7
  go_wp2_with fail
  refine (roomy_any a2 c2 x1 w7 (own_read Q1.out.2.1) (by omega)).mono ?_
  rintro e w8 ⟨rfl, hown8, hb8⟩
  go_wp2_with fail
  have R8 : Hid (Rd w8 a3 x2) := (own_read Q1.out.2.2.1).below hb8 (Nat.le_refl _)
  refine (roomy_any a3 c3 x2 w8 R8.out (by omega)).mono ?_
  rintro e w9 ⟨rfl, hown9, hb9⟩
  obtain ⟨A, HA⟩ : ∃ A : Nat → Option Addr, Hid (A 0 = a1 ∧ A 1 = a2 ∧ A 2 = a3 ∧ A 3 = a4 ∧ A 4 = some ⟨w7.heap.size, 0, none⟩ ∧ A 5 = some ⟨w8.heap.size, 0, none⟩) := ⟨fun j => if j = 0 then a1 else if j = 1 then a2 else if j = 2 then a3 else if j = 3 then a4 else if j = 4 then some ⟨w7.heap.size, 0, none⟩ else some ⟨w8.heap.size, 0, none⟩, rfl, rfl, rfl, rfl, rfl, rfl⟩
  obtain ⟨N, HN⟩ : ∃ N : Nat → Nat, Hid (N 0 = x1.length ∧ N 1 = x1.length ∧ N 2 = x2.length ∧ N 3 = x2.length ∧ N 4 = x1.length + 9 ∧ N 5 = x2.length + 9) := ⟨fun j => if j = 0 then x1.length else if j = 1 then x1.length else if j = 2 then x2.length else if j = 3 then x2.length else if j = 4 then x1.length + 9 else x2.length + 9, rfl, rfl, rfl, rfl, rfl, rfl⟩
  obtain ⟨C, HC⟩ : ∃ C : Nat → Nat, Hid (C 0 = c1 ∧ C 1 = c2 ∧ C 2 = c3 ∧ C 3 = c4 ∧ C 4 = x1.length + 9 ∧ C 5 = x2.length + 9) := ⟨fun j => if j = 0 then c1 else if j = 1 then c2 else if j = 2 then c3 else if j = 3 then c4 else if j = 4 then x1.length + 9 else x2.length + 9, rfl, rfl, rfl, rfl, rfl, rfl⟩
  obtain ⟨L, HL⟩ : ∃ L : Nat → List UInt8, Hid (L 0 = x1 ∧ L 1 = x1 ∧ L 2 = x2 ∧ L 3 = x2 ∧ L 4 = x1 ++ List.replicate 9 165 ∧ L 5 = x2 ++ List.replicate 9 165) := ⟨fun j => if j = 0 then x1 else if j = 1 then x1 else if j = 2 then x2 else if j = 3 then x2 else if j = 4 then x1 ++ List.replicate 9 165 else x2 ++ List.replicate 9 165, rfl, rfl, rfl, rfl, rfl, rfl⟩
  obtain ⟨h, Hh⟩ : ∃ h : Nat → Nat, Hid (h 0 = w1.heap.size ∧ h 1 = w2.heap.size ∧ h 2 = w3.heap.size ∧ h 3 = w4.heap.size ∧ h 4 = w5.heap.size ∧ h 5 = w8.heap.size ∧ ∀ j, 6 ≤ j → h j = w9.heap.size) := ⟨fun j => if j = 0 then w1.heap.size else if j = 1 then w2.heap.size else if j = 2 then w3.heap.size else if j = 3 then w4.heap.size else if j = 4 then w5.heap.size else if j = 5 then w8.heap.size else w9.heap.size, rfl, rfl, rfl, rfl, rfl, rfl, fun j hj => by simp [show j ≠ 0 by omega, show j ≠ 1 by omega, show j ≠ 2 by omega, show j ≠ 3 by omega, show j ≠ 4 by omega, show j ≠ 5 by omega]⟩
  have M9 : Hid (Mem w9 (fun j => .slice (A j) (N j) (C j)) N L) := by
    obtain ⟨q0, q1, q2, q3⟩ := Q1.out
    obtain ⟨A0, A1, A2, A3, A4, A5⟩ := HA.out
    obtain ⟨N0, N1, N2, N3, N4, N5⟩ := HN.out
    obtain ⟨C0, C1, C2, C3, C4, C5⟩ := HC.out
    obtain ⟨L0, L1, L2, L3, L4, L5⟩ := HL.out
    intro j hj
    have hj6 : j = 0 ∨ j = 1 ∨ j = 2 ∨ j = 3 ∨ j = 4 ∨ j = 5 := by omega
    rcases hj6 with rfl | rfl | rfl | rfl | rfl | rfl
    · show w9.ownsRow 0 5 1 (.slice (A 0) (N 0) (C 0)) (N 0) ((L 0).map B); rw [A0, N0, C0, L0]; exact own_below (own_below q0 hb8) hb9
    · show w9.ownsRow 0 5 1 (.slice (A 1) (N 1) (C 1)) (N 1) ((L 1).map B); rw [A1, N1, C1, L1]; exact own_below (own_below q1 hb8) hb9
    · show w9.ownsRow 0 5 1 (.slice (A 2) (N 2) (C 2)) (N 2) ((L 2).map B); rw [A2, N2, C2, L2]; exact own_below (own_below q2 hb8) hb9
    · show w9.ownsRow 0 5 1 (.slice (A 3) (N 3) (C 3)) (N 3) ((L 3).map B); rw [A3, N3, C3, L3]; exact own_below (own_below q3 hb8) hb9
    · show w9.ownsRow 0 5 1 (.slice (A 4) (N 4) (C 4)) (N 4) ((L 4).map B); rw [A4, N4, C4, L4]; exact own_below (ownsRow0 hown8) hb9
    · show w9.ownsRow 0 5 1 (.slice (A 5) (N 5) (C 5)) (N 5) ((L 5).map B); rw [A5, N5, C5, L5]; exact ownsRow0 hown9
  have S9 : Hid (Sep (fun j => .slice (A j) (N j) (C j)) h) := by
    obtain ⟨i0, i1, i2, i3⟩ := IV.out
    obtain ⟨z0, z1, z2, z3, z4⟩ := HZ.out
    obtain ⟨A0, A1, A2, A3, A4, A5⟩ := HA.out
    obtain ⟨N0, N1, N2, N3, N4, N5⟩ := HN.out
    obtain ⟨C0, C1, C2, C3, C4, C5⟩ := HC.out
    obtain ⟨h0, h1, h2, h3, h4, h5, h6⟩ := Hh.out
    have z7 := Hz7.out
    have z8 := hb8.size
    have z9 := hb9.size
    have l8 := (hown8.lt w7.heap.size rfl).2
    have l9 := (hown9.lt w8.heap.size rfl).2
    have h6' := h6 6 (by omega)
    constructor
    · intro j hj g
      have hj6 : j = 0 ∨ j = 1 ∨ j = 2 ∨ j = 3 ∨ j = 4 ∨ j = 5 := by omega
      rcases hj6 with rfl | rfl | rfl | rfl | rfl | rfl
      · show (Value.slice (A 0) (N 0) (C 0)).ownBlock = some g → _; rw [A0, N0, C0, h0, h1]; exact i0 g
      · show (Value.slice (A 1) (N 1) (C 1)).ownBlock = some g → _; rw [A1, N1, C1, h1, h2]; exact i1 g
      · show (Value.slice (A 2) (N 2) (C 2)).ownBlock = some g → _; rw [A2, N2, C2, h2, h3]; exact i2 g
      · show (Value.slice (A 3) (N 3) (C 3)).ownBlock = some g → _; rw [A3, N3, C3, h3, h4]; exact i3 g
      · show (Value.slice (A 4) (N 4) (C 4)).ownBlock = some g → _; rw [A4, h4, h5]; intro e; simp [Value.ownBlock] at e; omega
      · show (Value.slice (A 5) (N 5) (C 5)).ownBlock = some g → _; rw [A5, h5, h6']; intro e; simp [Value.ownBlock] at e; omega
    · intro i j hij
      have hi : i = 0 ∨ i = 1 ∨ i = 2 ∨ i = 3 ∨ i = 4 ∨ i = 5 ∨ 6 ≤ i := by omega
      have hj : j = 0 ∨ j = 1 ∨ j = 2 ∨ j = 3 ∨ j = 4 ∨ j = 5 ∨ 6 ≤ j := by omega
      rcases hi with rfl | rfl | rfl | rfl | rfl | rfl | hi <;> rcases hj with rfl | rfl | rfl | rfl | rfl | rfl | hj <;> first | omega | (have := h6 j hj; omega) | (have := h6 i hi; have := h6 j hj; omega)
  have hB9 : Below w.heap.size w w9 := hB7.trans ((hb8.mono hB7.size).trans (hb9.mono (Nat.le_trans hB7.size hb8.size)))
  have Hlo : Hid (w.heap.size ≤ h 0 ∧ h 6 = w9.heap.size) := by obtain ⟨h0, _, _, _, _, _, h6⟩ := Hh.out; exact ⟨by rw [h0]; exact HZ.out.1, h6 6 (by omega)⟩
  clear Q1 IV HZ Hz7 Hh hown8 hown9 hb8 hb9 hB7 R8
  have o1 : Hid (w9.ownsRow 0 5 1 (.slice a1 x1.length c1) x1.length (x1.map B)) := by
    have := M9.out 0 (by decide)
    obtain ⟨A0, _⟩ := HA.out; obtain ⟨N0, _⟩ := HN.out; obtain ⟨C0, _⟩ := HC.out; obtain ⟨L0, _⟩ := HL.out
    simp only [A0, N0, C0, L0] at this
    exact this
  go_wp2
  go_loopw [17] (fun s wr => ∃ k : Nat, k ≤ x1.length ∧ s = .int .i64 k ∧ wr.ownsRow 0 5 1 (.slice a1 x1.length c1) x1.length ((List.replicate k 69 ++ x1.drop k).map B) ∧ w9.grownBy wr (Value.slice a1 x1.length c1).ownBlock) (fun s _ => x1.length - (intOf s).toNat)
  case atStart => exact ⟨0, Nat.zero_le _, rfl, by simpa using o1.out, World.grownBy.refl _ _⟩
  case round =>
    obtain ⟨k, hk, rfl, hown, hgr⟩ := hrel
    by_cases hlt : k < x1.length
    · obtain ⟨g, hA⟩ := own_some hown (by omega)
      subst hA
      obtain ⟨⟨u, hcell⟩, hfrz, hst, hgs⟩ := fill_step 69 hown rfl hlt
      have Hst : Hid _ := hst
      have Hgs : Hid _ := hgs
      clear hst hgs
      go_wp2
      exact ⟨⟨k + 1, by omega, by go_num, Hst.out, grownBy.trans hgr Hgs.out⟩, by simp [intOf]; omega⟩
    · obtain rfl : k = x1.length := by omega
      obtain ⟨w10, hw10⟩ : ∃ w10, w10 = wr := ⟨wr, rfl⟩
      subst hw10
      rw [List.drop_length, List.append_nil] at hown
      have M10 : Hid (Mem w10 (fun j => .slice (A j) (N j) (C j)) N (upd L 0 (List.replicate x1.length 69))) := by
        obtain ⟨A0, A1, A2, A3, A4, A5⟩ := HA.out; obtain ⟨N0, N1, N2, N3, N4, N5⟩ := HN.out; obtain ⟨C0, C1, C2, C3, C4, C5⟩ := HC.out; obtain ⟨L0, L1, L2, L3, L4, L5⟩ := HL.out
        refine M9.out.grown S9.out (i := 0) (by decide) ?_ ?_
        · show w9.grownBy w10 (Value.slice (A 0) (N 0) (C 0)).ownBlock; rw [A0, N0, C0]; exact hgr
        · show w10.ownsRow 0 5 1 (.slice (A 0) (N 0) (C 0)) (N 0) _; rw [A0, N0, C0]; exact hown
      have hB10 : Below w.heap.size w w10 := by
        obtain ⟨A0, A1, A2, A3, A4, A5⟩ := HA.out; obtain ⟨N0, N1, N2, N3, N4, N5⟩ := HN.out; obtain ⟨C0, C1, C2, C3, C4, C5⟩ := HC.out; obtain ⟨L0, L1, L2, L3, L4, L5⟩ := HL.out
        refine hB9.grown hgr hB9.size fun g hg => ?_
        have h1 := S9.out.1 0 (by decide) g (by show (Value.slice (A 0) (N 0) (C 0)).ownBlock = some g; rw [A0, N0, C0]; exact hg)
        have h2 := Hlo.out.1
        omega
      have hz10 : Hid (w9.heap.size ≤ w10.heap.size) := hgr.size
      have o3 : Hid (w10.ownsRow 0 5 1 (.slice a3 x2.length c3) x2.length (x2.map B)) := by
        have := M10.out 2 (by decide)
        obtain ⟨A0, A1, A2, A3, A4, A5⟩ := HA.out; obtain ⟨N0, N1, N2, N3, N4, N5⟩ := HN.out; obtain ⟨C0, C1, C2, C3, C4, C5⟩ := HC.out; obtain ⟨L0, L1, L2, L3, L4, L5⟩ := HL.out
        simp only [upd, A2, N2, C2, L2] at this
        exact this
      clear hown hgr M9 o1 hlt hk hB9
      go_wp2
      go_loopw [18] (fun s wr => ∃ k : Nat, k ≤ x2.length ∧ s = .int .i64 k ∧ wr.ownsRow 0 5 1 (.slice a3 x2.length c3) x2.length ((List.replicate k 68 ++ x2.drop k).map B) ∧ w10.grownBy wr (Value.slice a3 x2.length c3).ownBlock) (fun s _ => x2.length - (intOf s).toNat)
      case atStart => exact ⟨0, Nat.zero_le _, rfl, by simpa using o3.out, World.grownBy.refl _ _⟩
      case round =>
        obtain ⟨k, hk, rfl, hown, hgr⟩ := hrel
        by_cases hlt : k < x2.length
        · obtain ⟨g, hA⟩ := own_some hown (by omega)
          subst hA
          obtain ⟨⟨u, hcell⟩, hfrz, hst, hgs⟩ := fill_step 68 hown rfl hlt
          have Hst : Hid _ := hst
          have Hgs : Hid _ := hgs
          clear hst hgs
          go_wp2
          exact ⟨⟨k + 1, by omega, by go_num, Hst.out, grownBy.trans hgr Hgs.out⟩, by simp [intOf]; omega⟩
        · obtain rfl : k = x2.length := by omega
          obtain ⟨w11, hw11⟩ : ∃ w11, w11 = wr := ⟨wr, rfl⟩
          subst hw11
          rw [List.drop_length, List.append_nil] at hown
          have M11 : Hid (Mem w11 (fun j => .slice (A j) (N j) (C j)) N (upd (upd L 0 (List.replicate x1.length 69)) 2 (List.replicate x2.length 68))) := by
            obtain ⟨A0, A1, A2, A3, A4, A5⟩ := HA.out; obtain ⟨N0, N1, N2, N3, N4, N5⟩ := HN.out; obtain ⟨C0, C1, C2, C3, C4, C5⟩ := HC.out; obtain ⟨L0, L1, L2, L3, L4, L5⟩ := HL.out
            refine M10.out.grown S9.out (i := 2) (by decide) ?_ ?_
            · show w10.grownBy w11 (Value.slice (A 2) (N 2) (C 2)).ownBlock; rw [A2, N2, C2]; exact hgr
            · show w11.ownsRow 0 5 1 (.slice (A 2) (N 2) (C 2)) (N 2) _; rw [A2, N2, C2]; exact hown
          have hB11 : Below w.heap.size w w11 := by
            obtain ⟨A0, A1, A2, A3, A4, A5⟩ := HA.out; obtain ⟨N0, N1, N2, N3, N4, N5⟩ := HN.out; obtain ⟨C0, C1, C2, C3, C4, C5⟩ := HC.out; obtain ⟨L0, L1, L2, L3, L4, L5⟩ := HL.out
            refine hB10.grown hgr hB10.size fun g hg => ?_
            have h1 := S9.out.1 2 (by decide) g (by show (Value.slice (A 2) (N 2) (C 2)).ownBlock = some g; rw [A2, N2, C2]; exact hg)
            have h2 := Hlo.out.1
            have h3 := S9.out.2 0 2 (by decide)
            omega
          have hz11 : Hid (w9.heap.size ≤ w11.heap.size) := Nat.le_trans hz10.out hgr.size
          have r1 : Hid (Rd w11 a2 x1 ∧ Rd w11 (some ⟨w7.heap.size, 0, none⟩) x1 ∧ Rd w11 a4 x2 ∧ Rd w11 (some ⟨w8.heap.size, 0, none⟩) x2) := by
            have q1 := M11.out 1 (by decide)
            have q3 := M11.out 3 (by decide)
            have q4 := M11.out 4 (by decide)
            have q5 := M11.out 5 (by decide)
            obtain ⟨A0, A1, A2, A3, A4, A5⟩ := HA.out; obtain ⟨N0, N1, N2, N3, N4, N5⟩ := HN.out; obtain ⟨C0, C1, C2, C3, C4, C5⟩ := HC.out; obtain ⟨L0, L1, L2, L3, L4, L5⟩ := HL.out
            simp only [upd, A1, N1, C1, L1] at q1
            simp only [upd, A3, N3, C3, L3] at q3
            simp only [upd, A4, N4, C4, L4] at q4
            simp only [upd, A5, N5, C5, L5] at q5
            exact ⟨own_read q1, own_head q4, own_read q3, own_head q5⟩
          clear hown hgr M10 o3 hlt hk hB10 hz10
          go_wp2_with fail
          refine (same_any a2 (some ⟨w7.heap.size, 0, none⟩) c2 (x1.length + 9) x1 x1 w11 r1.out.1 r1.out.2.1 (by omega)).mono ?_
          rw [decide_eq_true (rfl : x1 = x1)]
          rintro e w12 ⟨rfl, q, hq⟩
          have P12 : Hid (w12 = w11.drewN q) := hq
          clear hq
          go_wp2_with fail
          refine (same_any a4 (some ⟨w8.heap.size, 0, none⟩) c4 (x2.length + 9) x2 x2 w12 (by rw [P12.out]; exact r1.out.2.2.1) (by rw [P12.out]; exact r1.out.2.2.2) (by omega)).mono ?_
          rw [decide_eq_true (rfl : x2 = x2)]
          rintro e w13 ⟨rfl, q2, hq⟩
          have P13 : Hid (w13 = (w11.drewN q).drewN q2) := by show w13 = _; rw [hq, P12.out]
          obtain ⟨L2', HL2⟩ : ∃ L2' : Nat → List UInt8, Hid (L2' = upd (upd L 0 (List.replicate x1.length 69)) 2 (List.replicate x2.length 68)) := ⟨_, rfl⟩
          have M13 : Hid (Mem w13 (fun j => .slice (A j) (N j) (C j)) N L2') := by rw [P13.out, HL2.out]; exact M11.out
          have hB13 : Below w.heap.size w w13 := by rw [P13.out]; exact below_drewN (below_drewN hB11 q) q2
          have hz13 : Hid (w9.heap.size ≤ w13.heap.size) := by rw [P13.out]; exact hz11.out
          clear hq P12 P13 M11 hB11 hz11 r1
          go_wp2
          have G4 : Hid (∀ j, j < 4 → (w13.alloc (.cells #[.slice a1 x1.length c1, .slice a2 x1.length c2, .slice a3 x2.length c3, .slice a4 x2.length c4] 23)).cell? ⟨w13.heap.size, j, none⟩ = some (.slice (A j) (N j) (C j))) := by
            obtain ⟨A0, A1, A2, A3, A4, A5⟩ := HA.out; obtain ⟨N0, N1, N2, N3, N4, N5⟩ := HN.out; obtain ⟨C0, C1, C2, C3, C4, C5⟩ := HC.out
            intro j hj
            rw [World.cell?_alloc_at _ _ _ _ rfl]
            have hj4 : j = 0 ∨ j = 1 ∨ j = 2 ∨ j = 3 := by omega
            rcases hj4 with rfl | rfl | rfl | rfl
            · rw [A0, N0, C0]; rfl
            · rw [A1, N1, C1]; rfl
            · rw [A2, N2, C2]; rfl
            · rw [A3, N3, C3]; rfl
          have HNl : Hid (∀ j, j < 6 → N j ≤ 140737488351241) := by
            obtain ⟨N0, N1, N2, N3, N4, N5⟩ := HN.out
            intro j hj
            have hj6 : j = 0 ∨ j = 1 ∨ j = 2 ∨ j = 3 ∨ j = 4 ∨ j = 5 := by omega
            rcases hj6 with rfl | rfl | rfl | rfl | rfl | rfl <;> omega
          have HLl : Hid (∀ j, j < 6 → (L2' j).length = N j) := fun j hj => by have := (M13.out j hj).1; simpa using this
          go_loopw [20] (fun s wr => ∃ i : Nat, i ≤ 4 ∧ s = .int .i64 i ∧ Hid (Mem wr (fun j => .slice (A j) (N j) (C j)) N (fil N L2' i)) ∧ Hid (∀ j, j < 4 → wr.cell? ⟨w13.heap.size, j, none⟩ = some (.slice (A j) (N j) (C j))) ∧ w13.heap.size < wr.heap.size ∧ Below w.heap.size w wr) (fun s _ => 4 - (intOf s).toNat)
          case atStart => exact ⟨0, by omega, rfl, by show Mem _ _ _ _; rw [fil_zero]; exact M13.out.quiet (World.grownBy_alloc _ _ _), G4, by simp, hB13.alloc hB13.size _⟩
          case round =>
            obtain ⟨i, hi4, rfl, Mi, Gi, hsz, hBi⟩ := hrel
            by_cases hlt : i < 4
            · obtain ⟨wi, hwi⟩ : ∃ wi, wi = wr := ⟨wr, rfl⟩
              subst hwi
              obtain ⟨Ai, hAi⟩ : ∃ x, A i = x := ⟨_, rfl⟩
              obtain ⟨Ni, hNi⟩ : ∃ x, N i = x := ⟨_, rfl⟩
              obtain ⟨Ci, hCi⟩ : ∃ x, C i = x := ⟨_, rfl⟩
              have HI : Hid (A i = Ai ∧ N i = Ni ∧ C i = Ci) := ⟨hAi, hNi, hCi⟩
              have hNb : Ni ≤ 140737488351241 := by rw [← hNi]; exact HNl.out i (by omega)
              have HLi : Hid ((L2' i).length = Ni) := by show _ = Ni; rw [← hNi]; exact HLl.out i (by omega)
              have owni : wi.ownsRow 0 5 1 (.slice Ai Ni Ci) Ni ((L2' i).map B) := by
                have := Mi.out i (by omega)
                simp only [fil, hAi, hNi, hCi, Nat.lt_irrefl, if_false] at this
                exact this
              have Hne : Hid (∀ g, (Value.slice Ai Ni Ci).ownBlock = some g → w.heap.size ≤ g ∧ g < w13.heap.size) := fun g hg => by
                have hg' : (Value.slice (A i) (N i) (C i)).ownBlock = some g := by rw [hAi, hNi, hCi]; exact hg
                have h1 := S9.out.1 i (by omega) g hg'
                have h2 := S9.out.lt (i := i) (by omega) hg'
                have h3 := Hlo.out
                have h4 := S9.out.2 0 i (by omega)
                have h5 := hz13.out
                omega
              have gi : wi.cell? ⟨w13.heap.size, i, none⟩ = some (.slice Ai Ni Ci) := by rw [Gi.out i hlt, hAi, hNi, hCi]
              have HBy : Hid (B (UInt8.ofNat (70 + i)) = .int .u8 (70 + (i : Int))) := by
                show Value.int _ _ = _
                rw [UInt8.toNat_ofNat']
                congr 1
                omega
              obtain ⟨y, hy⟩ : ∃ y, UInt8.ofNat (70 + i) = y := ⟨_, rfl⟩
              have HY : Hid (UInt8.ofNat (70 + i) = y) := hy
              rw [hy] at HBy
              clear hAi hNi hCi hy
              go_wp2
              clear gi
              go_loopw [21] (fun s wr => ∃ k : Nat, k ≤ Ni ∧ s = .int .i64 k ∧ wr.ownsRow 0 5 1 (.slice Ai Ni Ci) Ni ((List.replicate k y ++ (L2' i).drop k).map B) ∧ wi.grownBy wr (Value.slice Ai Ni Ci).ownBlock) (fun s _ => Ni - (intOf s).toNat)
              case atStart => exact ⟨0, Nat.zero_le _, rfl, by simpa using owni, World.grownBy.refl _ _⟩
              case round =>
                obtain ⟨k, hk, rfl, hown, hgr⟩ := hrel
                have gr : wr.cell? ⟨w13.heap.size, i, none⟩ = some (.slice Ai Ni Ci) := by
                  obtain ⟨h1, h2, h3⟩ := HI.out
                  refine hgr.cell ?_ (fun e => ?_)
                  · rw [Gi.out i hlt, h1, h2, h3]
                  · have h4 : w13.heap.size < w13.heap.size := (Hne.out w13.heap.size e.symm).2
                    omega
                by_cases hkl : k < Ni
                · obtain ⟨g, hA⟩ := own_some hown (by omega)
                  subst hA
                  obtain ⟨⟨u, hcell⟩, hfrz, hst, hgs⟩ := fill_step y hown HLi.out hkl
                  have Hst : Hid _ := hst
                  have Hgs : Hid _ := hgs
                  clear hst hgs
                  go_wp2
                  rw [← HBy.out]
                  exact ⟨⟨k + 1, by omega, by go_num, Hst.out, grownBy.trans hgr Hgs.out⟩, by simp [intOf]; omega⟩
                · obtain rfl : k = Ni := by omega
                  have hdr : (L2' i).drop k = [] := List.drop_eq_nil_of_le (by rw [HLi.out]; exact Nat.le_refl _)
                  rw [hdr, List.append_nil] at hown
                  have M' : Hid (Mem wr (fun j => .slice (A j) (N j) (C j)) N (fil N L2' (i + 1))) := by
                    obtain ⟨h1, h2, h3⟩ := HI.out
                    show Mem _ _ _ _
                    rw [← fil_succ, HY.out, h2]
                    refine Mi.out.grown S9.out (i := i) (by omega) ?_ ?_
                    · show wi.grownBy wr (Value.slice (A i) (N i) (C i)).ownBlock; rw [h1, h2, h3]; exact hgr
                    · show wr.ownsRow 0 5 1 (.slice (A i) (N i) (C i)) (N i) _; rw [h1, h2, h3]; exact hown
                  have G' : Hid (∀ j, j < 4 → wr.cell? ⟨w13.heap.size, j, none⟩ = some (.slice (A j) (N j) (C j))) := fun j hj => hgr.cell (Gi.out j hj) (fun e => by
                    have h4 : w13.heap.size < w13.heap.size := (Hne.out w13.heap.size e.symm).2
                    omega)
                  have hB' : Below w.heap.size w wr := hBi.grown hgr hBi.size fun g hg => (Hne.out g hg).1
                  have hs' : w13.heap.size < wr.heap.size := Nat.lt_of_lt_of_le hsz hgr.size
                  clear hdr hown
                  go_wp2
                  exact ⟨⟨i + 1, by omega, by go_num, M', G', hs', hB'⟩, by simp [intOf]; omega⟩
            · obtain rfl : i = 4 := by omega
              rw [show ((4 : Nat) : Int) = (4 : Int) from rfl]
              obtain ⟨w15, hw15⟩ : ∃ w15, w15 = wr := ⟨wr, rfl⟩
              subst hw15
              clear M13 hB13 G4 hlt hi4
              obtain ⟨F, HF⟩ : ∃ F, Hid (F = fil N L2' 4) := ⟨_, rfl⟩
              have MF : Hid (Mem w15 (fun j => .slice (A j) (N j) (C j)) N F) := by rw [HF.out]; exact Mi.out
              have HFl : Hid (∀ j, j < 6 → (F j).length = N j) := fun j hj => by have := (MF.out j hj).1; simpa using this
              have HV : Hid (∀ j, j < 6 → ∀ g, (Value.slice (A j) (N j) (C j)).ownBlock = some g → w.heap.size ≤ g ∧ g < w13.heap.size) := fun j hj g hg => by
                have h1 := S9.out.1 j hj g hg
                have h2 := S9.out.lt (i := j) hj hg
                have h3 := Hlo.out
                have h4 := S9.out.2 0 j (by omega)
                have h5 := hz13.out
                omega
              clear Mi
              go_wp2
              go_loopw [22, 23] (fun sl si wr => ∃ (i : Nat) (U : Nat → Value) (vl : Value), i ≤ 4 ∧ vl = sl ∧ si = .int .i64 i ∧ Hid (Mem wr (fun j => .slice (A j) (N j) (C j)) N F) ∧ Hid (∀ j, j < 4 → wr.cell? ⟨w13.heap.size, j, none⟩ = some (.slice (A j) (N j) (C j))) ∧
                  Hid (wr.ownsRow 0 23 1 vl i ((List.range i).map U)) ∧ Hid (∀ g, vl.ownBlock = some g → w15.heap.size ≤ g) ∧ Hid (∀ j, j < i → Gro wr w15.heap.size (fun j => .slice (A j) (N j) (C j)) N F vl j (U j)) ∧ w15.heap.size ≤ wr.heap.size ∧ Below w.heap.size w wr) (fun _ si _ => 4 - (intOf si).toNat)
              case atStart => exact ⟨0, fun _ => .slice none 0 0, .slice none 0 0, by omega, rfl, rfl, MF, Gi, World.ownsRow_nil _ _ _ _, (fun g hg => by cases hg), (fun j hj => by omega), Nat.le_refl _, hBi⟩
              case round =>
                obtain ⟨i, U, vl, hi4, rfl, rfl, Mi, Gj, Ol, Bl, Gr, hsi, hBj⟩ := hrel
                by_cases hlt : i < 4
                · obtain ⟨wi, hwi⟩ : ∃ wi, wi = wr := ⟨wr, rfl⟩
                  subst hwi
                  obtain ⟨Ai, hAi⟩ : ∃ x, A i = x := ⟨_, rfl⟩
                  obtain ⟨Ni, hNi⟩ : ∃ x, N i = x := ⟨_, rfl⟩
                  obtain ⟨Ci, hCi⟩ : ∃ x, C i = x := ⟨_, rfl⟩
                  have HI : Hid (A i = Ai ∧ N i = Ni ∧ C i = Ci) := ⟨hAi, hNi, hCi⟩
                  have hNb : Ni ≤ 140737488351241 := by rw [← hNi]; exact HNl.out i (by omega)
                  have owni : wi.ownsRow 0 5 1 (.slice Ai Ni Ci) Ni ((F i).map B) := by
                    have := Mi.out i (by omega)
                    simp only [hAi, hNi, hCi] at this
                    exact this
                  have Hne : Hid (∀ g, (Value.slice Ai Ni Ci).ownBlock = some g → w.heap.size ≤ g ∧ g < w13.heap.size) := fun g hg => HV.out i (by omega) g (by rw [hAi, hNi, hCi]; exact hg)
                  have gi : wi.cell? ⟨w13.heap.size, i, none⟩ = some (.slice Ai Ni Ci) := by rw [Gj.out i hlt, hAi, hNi, hCi]
                  have HBy : Hid (B (UInt8.ofNat (80 + i)) = .int .u8 (80 + (i : Int))) := by
                    show Value.int _ _ = _
                    rw [UInt8.toNat_ofNat']
                    congr 1
                    omega
                  obtain ⟨y, hy⟩ : ∃ y, UInt8.ofNat (80 + i) = y := ⟨_, rfl⟩
                  have HY : Hid (UInt8.ofNat (80 + i) = y) := hy
                  rw [hy] at HBy
                  have hltB : decide ((i : Int) < 4) = true := by simp; omega
                  clear hAi hNi hCi hy
                  go_wp2
                  clear gi
                  go_loopw [24, 25] (fun sv sk wr => ∃ (k : Nat) (v : Value), k ≤ 70 ∧ v = sv ∧ sk = .int .i64 k ∧ Hid (wr.ownsRow 0 5 1 v (Ni + k) ((F i ++ List.replicate k y).map B)) ∧ Hid (wr.ownsRow 0 5 1 (.slice Ai Ni Ci) Ni ((F i).map B)) ∧ Hid (wi.grownBy wr (Value.slice Ai Ni Ci).ownBlock) ∧ Hid (v.ownBlock = (Value.slice Ai Ni Ci).ownBlock ∨ ∃ g, v.ownBlock = some g ∧ wi.heap.size ≤ g)) (fun _ sk _ => 70 - (intOf sk).toNat)
                  case atStart => exact ⟨0, .slice Ai Ni Ci, by omega, rfl, rfl, by show World.ownsRow _ _ _ _ _ _ _; simpa using owni, owni, World.grownBy.refl _ _, .inl rfl⟩
                  case round =>
                    obtain ⟨k, v, hk, rfl, rfl, Ov, O0, Hgr, Hbk⟩ := hrel
                    by_cases hkl : k < 70
                    · obtain ⟨v', w', hrun, h1, h2, h3, h4⟩ := more_step (B y) rfl Ov.out O0.out (by omega) Hgr.out (fun g hg => by have := (Hne.out g hg).2; omega) Hbk.out (by omega)
                      rw [HBy.out] at hrun
                      have E1 : Hid (w'.ownsRow 0 5 1 v' (Ni + (k + 1)) ((F i ++ List.replicate (k + 1) y).map B)) := by
                        show World.ownsRow _ _ _ _ _ _ _
                        rw [List.replicate_succ', ← List.append_assoc, List.map_append, ← Nat.add_assoc]
                        exact h1
                      have E2 : Hid _ := h2
                      have E3 : Hid _ := h3
                      have E4 : Hid _ := h4
                      clear h1 h2 h3 h4
                      go_wp2_with (at_builtin; refine wpList_append_run rfl (.tmp 155) (.tmp 159) 23 rfl _ _ v' w' rfl rfl hrun ?_)
                      go_roundw
                      case rel => exact ⟨k + 1, v', by omega, rfl, by go_num, E1, E2, E3, E4⟩
                      case measure => simp [intOf]; omega
                    · obtain rfl : k = 70 := by omega
                      obtain ⟨gv, cv, rfl⟩ := own_shape Ov.out (by omega)
                      obtain ⟨vl', w', hrun, h1, h2, h3⟩ := long_step (wr := wr) (vl := vl) (v := .slice (some ⟨gv, 0, none⟩) (Ni + 70) cv) (n := i) (xs := (List.range i).map U) (own_cell Ov.out) (kept_ne Ol.out Hgr.out (fun g hg e => by have h4 := Bl.out g hg; have h5 := (Hne.out g e).2; omega)) (by omega)
                      have hgw : wi.heap.size ≤ wr.heap.size := Hgr.out.size
                      have vlw : Hid (∀ g, vl.ownBlock = some g → w15.heap.size ≤ g ∧ g < wi.heap.size) := fun g hg => ⟨Bl.out g hg, (Ol.out.lt g hg).2⟩
                      have vne : Hid (∀ g, (Value.slice (some ⟨gv, 0, none⟩) (Ni + 70) cv).ownBlock = some g → vl.ownBlock ≠ some g) := fun g hg e => by
                        have h4 := vlw.out g e
                        rcases Hbk.out with h5 | ⟨g5, h5, h6⟩
                        · have h7 := (Hne.out g (h5 ▸ hg)).2
                          omega
                        · rw [hg] at h5
                          injection h5 with h5
                          omega
                      have vlt : Hid (∀ g, (Value.slice (some ⟨gv, 0, none⟩) (Ni + 70) cv).ownBlock = some g → g < wr.heap.size) := fun g hg => (Ov.out.lt g hg).2
                      have Mr : Mem wr (fun j => .slice (A j) (N j) (C j)) N F := by
                        obtain ⟨q1, q2, q3⟩ := HI.out
                        have := Mi.out.grown (l := F i) S9.out (i := i) (by omega) (by show wi.grownBy wr (Value.slice (A i) (N i) (C i)).ownBlock; rw [q1, q2, q3]; exact Hgr.out) (by show wr.ownsRow 0 5 1 (.slice (A i) (N i) (C i)) (N i) _; rw [q1, q2, q3]; exact O0.out)
                        have e : upd F i (F i) = F := by funext j; unfold upd; split <;> simp_all
                        rw [e] at this
                        exact this
                      have M' : Hid (Mem w' (fun j => .slice (A j) (N j) (C j)) N F) := fun j hj => kept_ne (Mr j hj) h2 (fun g hg e => by have h4 := (vlw.out g e).1; have h5 := (HV.out j hj g hg).2; omega)
                      have G' : Hid (∀ j, j < 4 → w'.cell? ⟨w13.heap.size, j, none⟩ = some (.slice (A j) (N j) (C j))) := fun j hj => by
                        refine h2.cell (Hgr.out.cell (Gj.out j hj) (fun e => ?_)) (fun e => ?_)
                        · have h4 : w13.heap.size < w13.heap.size := (Hne.out w13.heap.size e.symm).2
                          omega
                        · have h4 : w15.heap.size ≤ w13.heap.size := (vlw.out w13.heap.size e.symm).1
                          omega
                      have Ol' : Hid (w'.ownsRow 0 23 1 vl' (i + 1) ((List.range (i + 1)).map fun j => if j = i then .slice (some ⟨gv, 0, none⟩) (Ni + 70) cv else U j)) := by
                        show World.ownsRow _ _ _ _ _ _ _
                        rw [List.range_succ, List.map_append]
                        have e : (List.range i).map (fun j => if j = i then .slice (some ⟨gv, 0, none⟩) (Ni + 70) cv else U j) = (List.range i).map U := List.map_congr_left fun j hj => by rw [if_neg (by have := List.mem_range.1 hj; omega)]
                        rw [e]
                        simpa using h1
                      have Bl' : Hid (∀ g, vl'.ownBlock = some g → w15.heap.size ≤ g) := fun g hg => by
                        rcases h3 with e | ⟨g3, e, h4⟩
                        · exact Bl.out g (e ▸ hg)
                        · rw [hg] at e
                          injection e with e
                          omega
                      have Ne' : ∀ u : Value, (∀ g, u.ownBlock = some g → vl.ownBlock ≠ some g ∧ g < wr.heap.size) → ∀ g, u.ownBlock = some g → vl'.ownBlock ≠ some g := fun u hu g hg => by
                        rcases h3 with e | ⟨g3, e, h4⟩
                        · rw [e]; exact (hu g hg).1
                        · rw [e]
                          intro e2
                          injection e2 with e2
                          have := (hu g hg).2
                          omega
                      have Gr' : Hid (∀ j, j < i + 1 → Gro w' w15.heap.size (fun j => .slice (A j) (N j) (C j)) N F vl' j (if j = i then .slice (some ⟨gv, 0, none⟩) (Ni + 70) cv else U j)) := fun j hj => by
                        by_cases hji : j = i
                        · subst hji
                          rw [if_pos rfl]
                          obtain ⟨q1, q2, q3⟩ := HI.out
                          refine ⟨?_, ?_, Ne' (.slice (some ⟨gv, 0, none⟩) (Ni + 70) cv) (fun g hg => ⟨vne.out g hg, vlt.out g hg⟩)⟩
                          · rw [q2, HY.out]; exact kept_ne Ov.out h2 vne.out
                          · show (Value.slice (some ⟨gv, 0, none⟩) (Ni + 70) cv).ownBlock = (Value.slice (A j) (N j) (C j)).ownBlock ∨ _
                            rw [q1, q2, q3]
                            rcases Hbk.out with h5 | ⟨g5, h5, h6⟩
                            · exact .inl h5
                            · exact .inr ⟨g5, h5, by omega⟩
                        · rw [if_neg hji]
                          obtain ⟨g1, g2, g3⟩ := Gr.out j (by omega)
                          have hne : ∀ g, (U j).ownBlock = some g → (Value.slice Ai Ni Ci).ownBlock ≠ some g := fun g hg e => by
                            obtain ⟨q1, q2, q3⟩ := HI.out
                            have h7 := (Hne.out g e).2
                            rcases g2 with h5 | ⟨g5, h5, h6⟩
                            · rcases S9.out.ne (i := i) (j := j) (by omega) (by omega) (fun e => hji e.symm) with h8 | h8
                              · have h9 : (Value.slice (A j) (N j) (C j)).ownBlock = none := h8
                                have h10 : (U j).ownBlock = (Value.slice (A j) (N j) (C j)).ownBlock := h5
                                rw [hg, h9] at h10
                                cases h10
                              · apply h8
                                show (Value.slice (A j) (N j) (C j)).ownBlock = (Value.slice (A i) (N i) (C i)).ownBlock
                                have h10 : (U j).ownBlock = (Value.slice (A j) (N j) (C j)).ownBlock := h5
                                rw [← h10, hg, q1, q2, q3, e]
                            · rw [hg] at h5
                              injection h5 with h5
                              omega
                          have o1 := kept_ne g1 Hgr.out hne
                          exact ⟨kept_ne o1 h2 (fun g hg => g3 g hg), g2, Ne' (U j) (fun g hg => ⟨g3 g hg, (o1.lt g hg).2⟩)⟩
                      have hB' : Below w.heap.size w w' := by
                        have b1 : Below w.heap.size w wr := hBj.grown Hgr.out hBj.size fun g hg => (Hne.out g hg).1
                        refine b1.grown h2 b1.size fun g hg => ?_
                        have h4 := (vlw.out g hg).1
                        have h5 := hBi.size
                        omega
                      have hs' : w15.heap.size ≤ w'.heap.size := Nat.le_trans hsi (Nat.le_trans hgw h2.size)
                      clear h1 h2 h3 Mr Ne'
                      go_wp2_with (at_builtin; refine wpList_append_run rfl (.tmp 161) (.tmp 163) 29 rfl _ _ vl' w' rfl rfl hrun ?_)
                      exact ⟨⟨i + 1, fun j => if j = i then .slice (some ⟨gv, 0, none⟩) (Ni + 70) cv else U j, vl', by omega, rfl, by go_num, M', G', Ol', Bl', Gr', hs', hB'⟩, by simp [intOf]; omega⟩
                · obtain rfl : i = 4 := by omega
                  rw [show ((4 : Nat) : Int) = (4 : Int) from rfl]
                  obtain ⟨w16, hw16⟩ : ∃ w16, w16 = wr := ⟨wr, rfl⟩
                  subst hw16
                  obtain ⟨gl, cl, rfl⟩ := own_shape Ol.out (by decide)
                  have Hwas : Hid (Rd w16 (some ⟨w7.heap.size, 0, none⟩) x1 ∧ Rd w16 (some ⟨w8.heap.size, 0, none⟩) x2) := by
                    obtain ⟨A0, A1, A2, A3, A4, A5⟩ := HA.out; obtain ⟨N0, N1, N2, N3, N4, N5⟩ := HN.out; obtain ⟨C0, C1, C2, C3, C4, C5⟩ := HC.out; obtain ⟨L0, L1, L2, L3, L4, L5⟩ := HL.out
                    have q4 := Mi.out 4 (by decide)
                    have q5 := Mi.out 5 (by decide)
                    have f4 : F 4 = x1 ++ List.replicate 9 165 := by rw [HF.out, HL2.out]; simp [fil, upd, L4]
                    have f5 : F 5 = x2 ++ List.replicate 9 165 := by rw [HF.out, HL2.out]; simp [fil, upd, L5]
                    simp only [A4, N4, C4, f4] at q4
                    simp only [A5, N5, C5, f5] at q5
                    exact ⟨own_head q4, own_head q5⟩
                  clear MF hlt hi4
                  go_wp2
                  go_loop [26] (fun si => ∃ i : Nat, i ≤ 4 ∧ si = .int .i64 i) (fun si => 4 - (intOf si).toNat)
                  case atStart => exact ⟨0, by omega, rfl⟩
                  case round =>
                    obtain ⟨i, hi4, rfl⟩ := hrel
                    by_cases hlt : i < 4
                    · obtain ⟨Ai, hAi⟩ : ∃ x, A i = x := ⟨_, rfl⟩
                      obtain ⟨Ni, hNi⟩ : ∃ x, N i = x := ⟨_, rfl⟩
                      obtain ⟨Ci, hCi⟩ : ∃ x, C i = x := ⟨_, rfl⟩
                      have hNb : Ni ≤ 140737488351241 := by rw [← hNi]; exact HNl.out i (by omega)
                      have hFi : F i = List.replicate Ni (UInt8.ofNat (70 + i)) := by rw [HF.out]; simp [fil, hlt, hNi]
                      have owni : Hid (w16.ownsRow 0 5 1 (.slice Ai Ni Ci) Ni ((List.replicate Ni (UInt8.ofNat (70 + i))).map B)) := by
                        have := Mi.out i (by omega)
                        simp only [hAi, hNi, hCi, hFi] at this
                        exact this
                      have hU := (Gr.out i hlt).1
                      rw [hNi, hFi] at hU
                      obtain ⟨gu, cu, hUi⟩ := own_shape hU (by omega)
                      rw [hUi] at hU
                      have HU : Hid (w16.ownsRow 0 5 1 (.slice (some ⟨gu, 0, none⟩) (Ni + 70) cu) (Ni + 70) ((List.replicate Ni (UInt8.ofNat (70 + i)) ++ List.replicate 70 (UInt8.ofNat (80 + i))).map B)) := hU
                      have gi : w16.cell? ⟨w13.heap.size, i, none⟩ = some (.slice Ai Ni Ci) := by rw [Gj.out i hlt, hAi, hNi, hCi]
                      have gl1 : w16.cell? ⟨gl, i, none⟩ = some (.slice (some ⟨gu, 0, none⟩) (Ni + 70) cu) := by
                        rw [Ol.out.cellAt i (by omega), List.getElem?_map, List.getElem?_range hlt, ← hUi]
                        rfl
                      have HB7 : Hid (B (UInt8.ofNat (70 + i)) = .int .u8 (70 + (i : Int)) ∧ B (UInt8.ofNat (80 + i)) = .int .u8 (80 + (i : Int))) := by
                        constructor <;> (show Value.int _ _ = _; rw [UInt8.toNat_ofNat']; congr 1; omega)
                      have hltB : decide ((i : Int) < 4) = true := by simp; omega
                      clear hAi hNi hCi hFi hU hUi
                      go_wp2
                      go_loop [27] (fun sk => ∃ k : Nat, k ≤ Ni + 70 ∧ sk = .int .i64 k) (fun sk => Ni + 70 - (intOf sk).toNat)
                      case atStart => exact ⟨0, Nat.zero_le _, rfl⟩
                      case round =>
                        obtain ⟨k, hk, rfl⟩ := hrel
                        by_cases hkl : k < Ni + 70
                        · by_cases hkn : k < Ni
                          · obtain ⟨ga, hA⟩ := own_some owni.out (by omega)
                            subst hA
                            have ca : w16.cell? ⟨ga, k, none⟩ = some (.int .u8 (70 + (i : Int))) := by
                              rw [owni.out.cellAt k (by omega), List.getElem?_map, List.getElem?_replicate, if_pos hkn, ← HB7.out.1]
                              rfl
                            have cu1 : w16.cell? ⟨gu, k, none⟩ = some (.int .u8 (70 + (i : Int))) := by
                              rw [HU.out.cellAt k (by omega), List.getElem?_map, List.getElem?_append_left (by simpa using hkn), List.getElem?_replicate, if_pos hkn, ← HB7.out.1]
                              rfl
                            go_wp2
                            exact ⟨⟨k + 1, by omega, by go_num⟩, by simp [intOf]; omega⟩
                          · have cu1 : w16.cell? ⟨gu, k, none⟩ = some (.int .u8 (80 + (i : Int))) := by
                              rw [HU.out.cellAt k (by omega), List.getElem?_map, List.getElem?_append_right (by simp; omega), List.getElem?_replicate, if_pos (by simp; omega), ← HB7.out.2]
                              rfl
                            go_wp2
                            exact ⟨⟨k + 1, by omega, by go_num⟩, by simp [intOf]; omega⟩
                        · go_wp2
                          exact ⟨⟨i + 1, by omega, by go_num⟩, by simp [intOf]; omega⟩
                    · obtain rfl : i = 4 := by omega
                      clear Mi Gj Ol Bl Gr
                      go_wp2_with fail
                      refine (decode_any s w16 (by omega)).mono ?_
                      rintro e w17 ⟨v, rfl, hv1, hb17⟩
                      obtain ⟨a5, c5, rfl, hown5, _⟩ := hv1.own
                      obtain ⟨e1', p1', e2', p2', y1', y2'⟩ := HE.out
                      rw [e1', p1', y1']
                      rw [y1'] at hown5
                      have R5 : Hid (Rd w17 a5 x1) := own_read hown5
                      have W17 : Hid (Rd w17 (some ⟨w7.heap.size, 0, none⟩) x1 ∧ Rd w17 (some ⟨w8.heap.size, 0, none⟩) x2) := ⟨Hwas.out.1.below hb17 (Nat.le_refl _), Hwas.out.2.below hb17 (Nat.le_refl _)⟩
                      have hB17 : Below w.heap.size w w17 := hBj.trans (hb17.mono hBj.size)
                      clear hv1 hown5 hb17 e1' p1' e2' p2' y1' y2' Hwas
                      go_wp2_with fail
                      refine (decodeStd_any s w17 (by omega)).mono ?_
                      rintro e w18 ⟨v, rfl, hv1, hb18⟩
                      obtain ⟨a6, c6, rfl, hown6, _⟩ := hv1.own
                      obtain ⟨e1', p1', e2', p2', y1', y2'⟩ := HE.out
                      rw [e2', p2', y2']
                      rw [y2'] at hown6
                      have R6 : Hid (Rd w18 a6 x2 ∧ Rd w18 a5 x1 ∧ Rd w18 (some ⟨w7.heap.size, 0, none⟩) x1 ∧ Rd w18 (some ⟨w8.heap.size, 0, none⟩) x2) := ⟨own_read hown6, R5.out.below hb18 (Nat.le_refl _), W17.out.1.below hb18 (Nat.le_refl _), W17.out.2.below hb18 (Nat.le_refl _)⟩
                      have hB18 : Below w.heap.size w w18 := hB17.trans (hb18.mono hB17.size)
                      clear hv1 hown6 hb18 e1' p1' e2' p2' y1' y2' R5 W17 hB17
                      go_wp2_with fail
                      refine (same_any a5 (some ⟨w7.heap.size, 0, none⟩) c5 (x1.length + 9) x1 x1 w18 R6.out.2.1 R6.out.2.2.1 (by omega)).mono ?_
                      rw [decide_eq_true (rfl : x1 = x1)]
                      rintro e w19 ⟨rfl, q, hq⟩
                      have P19 : Hid (w19 = w18.drewN q) := hq
                      clear hq
                      go_wp2_with fail
                      refine (same_any a6 (some ⟨w8.heap.size, 0, none⟩) c6 (x2.length + 9) x2 x2 w19 (by rw [P19.out]; exact R6.out.1) (by rw [P19.out]; exact R6.out.2.2.2) (by omega)).mono ?_
                      rw [decide_eq_true (rfl : x2 = x2)]
                      rintro e w20 ⟨rfl, q2, hq⟩
                      have hB20 : Below w.heap.size w w20 := by rw [hq, P19.out]; exact below_drewN (below_drewN hB18 q) q2
                      clear hq P19 R6 hB18
                      go_wp2
                      go_ret
                      exact ⟨rfl, hB20⟩

end Go.Proofs.Ytnccalbeidkeiab
