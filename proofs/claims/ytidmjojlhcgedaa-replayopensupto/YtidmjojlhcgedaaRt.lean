import Derived.Test.YtidmjojlhcgedaaRs
namespace Go.Proofs.Ytidmjojlhcgedaa
open Go.RowKit Go.Maps
set_option maxRecDepth 100000

theorem take_iff {l1 l2 : List UInt8} {k : Nat} (h1 : k < l1.length) (h2 : k < l2.length) (h : l1.take k = l2.take k) : l1[k] = l2[k] ↔ l1.take (k + 1) = l2.take (k + 1) := by
  rw [List.take_succ_eq_append_getElem h1, List.take_succ_eq_append_getElem h2, h]
  constructor
  · intro e; rw [e]
  · intro e
    have := List.append_cancel_left e
    exact (List.cons.inj this).1

theorem ne_byte (x y : UInt8) : ((x.toNat : Int) != (y.toNat : Int)) = !decide (x = y) := by
  by_cases h : x = y
  · subst h; simp
  · have : x.toNat ≠ y.toNat := fun e => h (UInt8.toNat_inj.1 e)
    simp [h]; omega

set_option maxHeartbeats 1000000 in
theorem same_any (a1 a2 : Option Addr) (c1 c2 : Nat) (l1 l2 : List UInt8) (w : World) (hr1 : Rd w a1 l1) (hr2 : Rd w a2 l2) (hlen : l1.length ≤ 281474976710656) :
    Calls Try.prog 14 #[.slice a1 l1.length c1, .slice a2 l2.length c2] w fun e w' => e = .returned (.bool (decide (l1 = l2))) ∧ ∃ q, w' = w.drewN q := by
  by_cases hl : l1.length = l2.length
  · have hl' : ((l1.length : Int) != (l2.length : Int)) = false := by simp; omega
    have Hl : Hid (l1.length = l2.length) := hl
    clear hl
    go_enter Try.func14, Try.ntmps14
    go_wp2
    go_loopw [5] (fun s wr => ∃ k q : Nat, k ≤ l1.length ∧ s = .int .i64 k ∧ Hid (l1.take k = l2.take k) ∧ wr = w.drewN q) (fun s _ => l1.length - (intOf s).toNat)
    case atStart => exact ⟨0, 0, Nat.zero_le _, rfl, rfl, rfl⟩
    case round =>
      obtain ⟨k, q, hk, rfl, Ht, rfl⟩ := hrel
      by_cases hlt : k < l1.length
      · rcases hr1 with hr1 | ⟨b1, o1, rfl, hb1, hc1⟩
        · subst hr1; simp at hlt
        rcases hr2 with hr2 | ⟨b2, o2, rfl, hb2, hc2⟩
        · subst hr2; have h := Hl.out; rw [List.length_nil] at h; omega
        have hlt2 : k < l2.length := by have := Hl.out; omega
        have g1 := hc1 k hlt
        have g2 := hc2 k hlt2
        rw [List.getD_eq_getElem?_getD, List.getElem?_eq_getElem hlt, Option.getD_some] at g1
        rw [List.getD_eq_getElem?_getD, List.getElem?_eq_getElem hlt2, Option.getD_some] at g2
        have Hx : Hid (l1[k] = l2[k] ↔ l1.take (k + 1) = l2.take (k + 1)) := take_iff hlt hlt2 Ht.out
        unfold B at g1 g2
        clear hc1 hc2
        generalize l1[k] = x at g1 Hx
        generalize l2[k] = y at g2 Hx
        have hltI : (k : Int) < (l2.length : Int) := by omega
        have hne := ne_byte x y
        by_cases hxy : x = y
        · have hd : ((x.toNat : Int) != (y.toNat : Int)) = false := by rw [hne]; simp [hxy]
          have Ht1 : Hid (l1.take (k + 1) = l2.take (k + 1)) := Hx.out.1 hxy
          clear hne hxy Hx
          go_wp2
          go_quiet (fail)
          go_wp2
          go_roundw
          case rel => exact ⟨k + 1, _, by omega, by go_num, Ht1, rfl⟩
          case measure => simp [intOf]; omega
        · have hd : ((x.toNat : Int) != (y.toNat : Int)) = true := by rw [hne]; simp [hxy]
          have Hf : Hid (decide (l1 = l2) = false) := by
            show decide (l1 = l2) = false
            rw [decide_eq_false_iff_not]
            intro e
            exact hxy (Hx.out.2 (by rw [e]))
          clear hne hxy Hx
          go_wp2
          go_quiet (fail)
          go_wp2
          go_ret
          rw [Hf.out]
          exact ⟨rfl, _, World.drewN_drewN _ _ _⟩
      · have He : Hid (decide (l1 = l2) = true) := by
          show decide (l1 = l2) = true
          have h1 := Ht.out
          have h2 := Hl.out
          rw [List.take_of_length_le (by omega), List.take_of_length_le (by omega)] at h1
          simpa using h1
        clear hr1 hr2
        go_wp2
        go_ret
        rw [He.out]
        exact ⟨rfl, _, rfl⟩
  · have hl' : ((l1.length : Int) != (l2.length : Int)) = true := by simp; omega
    have Hf : Hid (decide (l1 = l2) = false) := by show _ = _; simp; intro e; subst e; exact hl rfl
    clear hl
    go_enter Try.func14, Try.ntmps14
    go_wp2
    go_ret
    rw [Hf.out]
    exact ⟨rfl, 0, rfl⟩

/-- The book of an image, a new one where the bytes are none. -/
def openB (l : List UInt8) : Bk := match openR l with | .ok b => b | .error _ => bk0
theorem openB_ok (l : List UInt8) : BkOk (openB l) := by
  unfold openB
  split
  · rename_i b h; exact (img_open h).1
  · exact bk0_ok

set_option maxHeartbeats 1000000 in
theorem opened_any (ao : Option Addr) (cap : Nat) (l : List UInt8) (w : World) (hr : Rd w ao l) (hcap : l.length ≤ cap) (hnil : ao = none → cap = 0) (hl : l.length ≤ 1000000000) :
    Calls Try.prog 15 #[.slice ao l.length cap] w fun e w' => ∃ bb mb, e = .returned (.pointer (some ⟨bb, 0, none⟩)) ∧ Bok w' bb mb (openB l) ∧ w.heap.size ≤ bb ∧ w.heap.size ≤ mb ∧ Below w.heap.size w w' := by
  have OC := open_any ao cap l w hr hcap hnil hl
  have HB : Hid (openB l = match openR l with | .ok b => b | .error _ => bk0) := rfl
  generalize openB l = B at HB ⊢
  cases ho : openR l with
  | error k =>
    rw [ho] at OC HB
    clear hr hcap hnil ho
    go_enter Try.func15, Try.ntmps15
    go_wp2_with fail
    refine OC.mono ?_
    rintro e w1 ⟨rfl, hb1⟩
    have hb1h : Hid (Below w.heap.size w w1) := hb1
    clear hb1 OC
    go_wp2_with fail
    refine (new_any w1).mono ?_
    rintro e w2 ⟨bb, mb, rfl, hB, hb2, h1, h2⟩
    have hbh : Hid (Bok w2 bb mb bk0) := hB
    have hb3 : Hid (Below w.heap.size w w2) := hb1h.out.trans (hb2.mono hb1h.out.size)
    clear hB hb2
    go_wp2_with fail
    go_ret
    have := hb1h.out.size
    exact ⟨bb, mb, rfl, by rw [HB.out]; exact hbh.out, by omega, by omega, hb3.out⟩
  | ok b =>
    rw [ho] at OC HB
    clear hr hcap hnil ho
    go_enter Try.func15, Try.ntmps15
    go_wp2_with fail
    refine OC.mono ?_
    rintro e w1 ⟨bb, mb, rfl, hB, h1, h2, hb1⟩
    have hb1h : Hid (Below w.heap.size w w1) := hb1
    have hbh : Hid (Bok w1 bb mb b) := hB
    clear hb1 OC hB
    go_wp2_with fail
    go_ret
    exact ⟨bb, mb, rfl, by rw [HB.out]; exact hbh.out, h1, h2, hb1h.out⟩

/-- A call of a script. -/
structure Stp where
  k : Int
  j : List UInt8
  u : Int
  n : Int
def stp0 : Stp := ⟨0, [], 0, 0⟩
structure StpOk (s : Stp) : Prop where
  j : s.j.length ≤ 9223372036854775807
  u : I64 s.u
  n : I64 s.n
/-- A script in memory. -/
def RdO (w : World) (ao : Option Addr) (os : List Stp) : Prop :=
  os = [] ∨ ∃ g off : Nat, ao = some ⟨g, off, none⟩ ∧ g < w.heap.size ∧ ∀ i, i < os.length → w.cell? ⟨g, off + i * 4, none⟩ = some (.int .i64 (os.getD i stp0).k) ∧ w.cell? ⟨g, off + i * 4 + 1, none⟩ = some (.string ⟨(os.getD i stp0).j.toArray⟩) ∧
    w.cell? ⟨g, off + i * 4 + 2, none⟩ = some (.int .i64 (os.getD i stp0).u) ∧ w.cell? ⟨g, off + i * 4 + 3, none⟩ = some (.int .i64 (os.getD i stp0).n)
theorem RdO.below {w w' : World} {ao : Option Addr} {os : List Stp} {n : Nat} (h : RdO w ao os) (hb : Below n w w') (hn : w.heap.size ≤ n) : RdO w' ao os := by
  rcases h with h | ⟨g, off, e, hg, hc⟩
  · exact .inl h
  · have key : ∀ i v, w.cell? ⟨g, i, none⟩ = some v → w'.cell? ⟨g, i, none⟩ = some v := fun i v h => cell_but h fun h1 => hb.block g (by omega)
    exact .inr ⟨g, off, e, Nat.lt_of_lt_of_le hg hb.size, fun i hi => ⟨key _ _ (hc i hi).1, key _ _ (hc i hi).2.1, key _ _ (hc i hi).2.2.1, key _ _ (hc i hi).2.2.2⟩⟩
theorem RdO.at' {w : World} {ao : Option Addr} {os : List Stp} (h : RdO w ao os) {i : Nat} (hi : i < os.length) : ∃ g off : Nat, ao = some ⟨g, off, none⟩ ∧ g < w.heap.size ∧ w.cell? ⟨g, off + i * 4, none⟩ = some (.int .i64 (os.getD i stp0).k) ∧ w.cell? ⟨g, off + i * 4 + 1, none⟩ = some (.string ⟨(os.getD i stp0).j.toArray⟩) ∧
    w.cell? ⟨g, off + i * 4 + 2, none⟩ = some (.int .i64 (os.getD i stp0).u) ∧ w.cell? ⟨g, off + i * 4 + 3, none⟩ = some (.int .i64 (os.getD i stp0).n) := by
  rcases h with h | ⟨g, off, e, hg, hc⟩
  · subst h; simp at hi
  · exact ⟨g, off, e, hg, hc i hi⟩

/-- What a script's Takes make of a book. -/
def runB (b : Bk) (os : List Stp) : Bk := os.foldl (fun b s => if s.k = 1 then (takeF b s.j s.u s.n).2 else b) b
theorem runB_snoc (b : Bk) (os : List Stp) {i : Nat} (hi : i < os.length) : runB b (os.take (i + 1)) = if (os.getD i stp0).k = 1 then (takeF (runB b (os.take i)) (os.getD i stp0).j (os.getD i stp0).u (os.getD i stp0).n).2 else runB b (os.take i) := by
  unfold runB
  rw [List.take_succ_eq_append_getElem hi, List.foldl_append, getD_eq _ _ hi]
  rfl
theorem runB_ok {b : Bk} (h : BkOk b) {os : List Stp} (hs : ∀ s ∈ os, StpOk s) : BkOk (runB b os) := by
  have key : ∀ (os : List Stp) (b : Bk), BkOk b → (∀ s ∈ os, StpOk s) → BkOk (runB b os) := by
    intro os
    induction os with
    | nil => intro b h _; exact h
    | cons s r ih =>
      intro b h hs
      unfold runB
      rw [List.foldl_cons]
      refine ih _ ?_ (fun x hx => hs x (by simp [hx]))
      split
      · exact takeF_ok h _ _ _ (hs s (by simp)).u (hs s (by simp)).n
      · exact h
  exact key os b h hs
theorem stp_at {os : List Stp} (hs : ∀ s ∈ os, StpOk s) {i : Nat} (hi : i < os.length) : StpOk (os.getD i stp0) := by
  rw [getD_eq _ _ hi]; exact hs _ (List.getElem_mem hi)

end Go.Proofs.Ytidmjojlhcgedaa
