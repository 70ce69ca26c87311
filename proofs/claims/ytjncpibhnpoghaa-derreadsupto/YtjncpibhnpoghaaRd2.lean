import Derived.Test.YtjncpibhnpoghaaRd1
namespace Go.Proofs.Ytjncpibhnpoghaa
open Go.RowKit

def two (p c : Int) : Value := .tuple #[.int .i64 p, .int .i64 c]

/-- What reading an element comes to. -/
def ElP (w0 : World) (rb : Nat) (bv : Value) (xs : List X) (a : Nat) (r : Res) (e : Ending) (w' : World) : Prop :=
  Below w0.heap.size w0 w' ∧ match r with
  | .error (p, c) => e = .returned (two (a + p : Nat) c)
  | .ok (ts, m) => e = .returned (two (a + m : Nat) 0) ∧ ∃ lv' ys, St w0 w' rb bv lv' (xs ++ ys) ∧ es ys = ts

def ElC (d : Nat) : Prop := ∀ (w0 w : World) (rb : Nat) (ba : Option Addr) (cap : Nat) (l : List UInt8) (lv : Value) (xs : List X) (a b : Nat) (op : Int),
  Rd w0 ba l → l.length ≤ 65536 → l.length ≤ cap → cap ≤ 9223372036854775807 → (ba = none → cap = 0) → St w0 w rb (.slice ba l.length cap) lv xs → xs.length + (b - a) ≤ 65536 → a ≤ b → b ≤ l.length → op = 32 - (d : Int) →
  Calls Try.prog 21 #[.pointer (some ⟨rb, 0, none⟩), .int .i64 (a : Int), .int .i64 (b : Int), .int .i64 op] w fun e w' => ElP w0 rb (.slice ba l.length cap) xs a (pe d (sg l a b)) e w'

theorem pe_nil (d : Nat) : pe d [] = .error (0, 80) := by cases d <;> rfl

set_option maxRecDepth 100000 in
set_option maxHeartbeats 1000000 in
theorem element_none (w0 w : World) (rb : Nat) (ba : Option Addr) (cap : Nat) (l : List UInt8) (lv : Value) (xs : List X) (a b : Nat) (op : Int)
    (hr : Rd w0 ba l) (hl : l.length ≤ 65536) (hc : l.length ≤ cap) (hc2 : cap ≤ 9223372036854775807) (hnil : ba = none → cap = 0) (hS : St w0 w rb (.slice ba l.length cap) lv xs) (hab : a ≤ b) (hb : b ≤ l.length) (hm : meas (sg l a b) = none) :
    Calls Try.prog 21 #[.pointer (some ⟨rb, 0, none⟩), .int .i64 (a : Int), .int .i64 (b : Int), .int .i64 op] w fun e w' => e = .returned (two a 80) ∧ Below w0.heap.size w0 w' := by
  have c0 := hS.rd.cell 0 (by simp)
  simp only [List.getElem_cons_zero] at c0
  have hbel := hS.bel
  have hrw := hr.below hbel (Nat.le_refl _)
  have hMV : measV (sg l a b) = .tuple #[.int .i64 0, .int .i64 0, .bool false] := by unfold measV; rw [hm]
  by_cases hlt : a < b
  · obtain ⟨g, off, rfl, _, _⟩ := hrw.cell (by omega)
    have C := measure_any (some ⟨g, off + a, none⟩) (cap - a) (sg l a b) w (hrw.sg a b) (by rw [sg_length _ _ _ hab hb]; omega) (by omega)
    rw [hMV, sg_length _ _ _ hab hb] at C
    have HC : Hid (Calls Try.prog 32 #[.slice (some ⟨g, off + a, none⟩) (b - a) (cap - a)] w fun e w' => e = .returned (.tuple #[.int .i64 0, .int .i64 0, .bool false]) ∧ w' = w) := C
    have hac : a < cap := by omega
    clear C hMV hm hS hr hrw
    go_enter Try.func21, Try.ntmps21
    go_wp2_with fail
    refine HC.out.mono ?_
    rintro e w1 ⟨rfl, rfl⟩
    go_wp2
    go_ret2
    exact ⟨rfl, hbel⟩
  · obtain rfl : a = b := by omega
    have C := fun ad => measure_any ad (cap - a) [] w (Rd.nil _ _) (Nat.zero_le _) (by omega)
    rw [sg_nil] at hMV
    rw [hMV] at C
    have HC : Hid (∀ ad, Calls Try.prog 32 #[.slice ad 0 (cap - a)] w fun e w' => e = .returned (.tuple #[.int .i64 0, .int .i64 0, .bool false]) ∧ w' = w) := C
    clear C hMV hm hS
    rcases hrw with h0 | ⟨g, off, rfl, _, _⟩
    · subst h0
      have ha0 : a = 0 := by simp at hb; exact hb
      subst ha0
      simp only [List.length_nil] at *
      rw [Nat.sub_zero] at HC
      cases ba with
      | none =>
        obtain rfl := hnil rfl
        go_enter Try.func21, Try.ntmps21
        go_wp2_with fail
        refine (HC.out _).mono ?_
        rintro e w1 ⟨rfl, rfl⟩
        go_wp2
        go_ret2
        exact ⟨rfl, hbel⟩
      | some ad =>
        rcases Nat.eq_zero_or_pos cap with hc0 | hc0
        · subst hc0
          go_enter Try.func21, Try.ntmps21
          go_wp2_with fail
          refine (HC.out _).mono ?_
          rintro e w1 ⟨rfl, rfl⟩
          go_wp2
          go_ret2
          exact ⟨rfl, hbel⟩
        · skip
          go_enter Try.func21, Try.ntmps21
          go_wp2_with fail
          refine (HC.out _).mono ?_
          rintro e w1 ⟨rfl, rfl⟩
          go_wp2
          go_ret2
          exact ⟨rfl, hbel⟩
    · clear hnil
      by_cases hac : a = cap
      · subst hac
        rw [Nat.sub_self] at HC
        go_enter Try.func21, Try.ntmps21
        go_wp2_with fail
        refine (HC.out _).mono ?_
        rintro e w1 ⟨rfl, rfl⟩
        go_wp2
        go_ret2
        exact ⟨rfl, hbel⟩
      · have hac : a < cap := by omega
        go_enter Try.func21, Try.ntmps21
        go_wp2_with fail
        refine (HC.out _).mono ?_
        rintro e w1 ⟨rfl, rfl⟩
        go_wp2
        go_ret2
        exact ⟨rfl, hbel⟩

theorem infoB : (Try.prog.info? 5).map (fun i => (i.zero, i.size, i.bytes)) = some (some (.int .u8 0), 1, 1) := by kernel_rfl
theorem infoT : (Try.prog.info? 36).map (fun i => (i.zero, i.size, i.bytes)) = some (some (.agg #[.int .i64 0, .slice none 0 0, .int .i64 0]), 3, 40) := by kernel_rfl
theorem oneB (l : List UInt8) : ∀ u ∈ l.map B, u.oneCell' = true := fun u hu => by
  obtain ⟨x, _, rfl⟩ := List.mem_map.1 hu; rfl

theorem rd_news {w : World} {g off : Nat} {l : List UInt8} (h : Rd w (some ⟨g, off, none⟩) l) : ∀ j u, (l.map B)[j]? = some u → w.cell? ((⟨g, off, none⟩ : Addr).add j) = some u := by
  intro j u hu
  rcases h with h0 | ⟨b, o, e, hb, hc⟩
  · subst h0; simp at hu
  · cases e
    have hj : j < l.length := by
      have := (List.getElem?_eq_some_iff.1 hu).1
      simpa using this
    rw [Addr.add_lit, hc j hj]
    simp [List.getElem?_map, List.getElem?_eq_getElem hj] at hu
    rw [← hu, getD_eq _ _ hj]

theorem own_rd {w : World} {base c : Nat} {a : Option Addr} {l : List UInt8} (h : w.ownsRow base 5 1 (.slice a l.length c) l.length (l.map B)) : Rd w a l ∧ l.length ≤ c ∧ c ≤ 9223372036854775807 := by
  rcases h.2 with ⟨h', h0⟩ | ⟨g, cap, cur, h', _, _, h1, h2, _⟩
  · simp only [Value.slice.injEq] at h'
    obtain ⟨rfl, h3, rfl⟩ := h'
    rw [h3]
    exact ⟨.inl (List.length_eq_zero_iff.1 h0), Nat.le_refl _, by omega⟩
  · simp only [Value.slice.injEq] at h'
    obtain ⟨rfl, h3, rfl⟩ := h'
    refine ⟨.inr ⟨g, 0, rfl, (h.lt g rfl).2, fun j hj => ?_⟩, h1, by unfold maxLen at h2; omega⟩
    rw [Nat.zero_add, h.cellAt j (by omega)]
    simp [List.getElem?_map, List.getElem?_eq_getElem hj, List.getD_eq_getElem?_getD]

theorem own_slice {w : World} {base n size : Nat} {e : TypeId} {v : Value} {xs : List Value} (h : w.ownsRow base e size v n xs) : ∃ a c, v = .slice a n c := by
  rcases h.2 with ⟨h', h0⟩ | ⟨g, cap, cur, h', _⟩
  · exact ⟨none, 0, by rw [h', h0]⟩
  · exact ⟨_, _, h'⟩

theorem alloc_below_drew (w : World) (o : Obj) : Below w.heap.size w (w.drew.alloc o) := ⟨(alloc_below w.drew o).os, (alloc_below w.drew o).tape, (alloc_below w.drew o).output, (alloc_below w.drew o).size, (alloc_below w.drew o).block⟩
theorem own_base {w : World} {base base' n size : Nat} {e : TypeId} {v : Value} {xs : List Value} (h : w.ownsRow base e size v n xs) (hb : base' ≤ base) : w.ownsRow base' e size v n xs := by
  refine ⟨h.1, ?_⟩
  rcases h.2 with h' | ⟨g', cap', cur, h', h1, h2⟩
  · exact .inl h'
  · exact .inr ⟨g', cap', cur, h', Nat.le_trans hb h1, h2⟩
theorem bl_grown {t : TypeId} {w w' : World} {b : Nat} {vs : List Value} {row : Option Nat} (h : Bl t w b vs) (hg : w.grownBy w' row) (hne : row ≠ some b) : Bl t w' b vs := by
  have hlt := h.lt
  unfold Bl at *
  rw [hg.block b hlt (fun e => hne e.symm)]
  exact h
theorem bl_set {t : TypeId} {w : World} {b c : Nat} {vs : List Value} (h : Bl t w b vs) (hne : b ≠ c) (j : Nat) (v : Value) : Bl t (w.setCell ⟨c, j, none⟩ v) b vs := by
  unfold Bl at *
  rw [heap_setCell_other w ⟨c, j, none⟩ b v hne]
  exact h

end Go.Proofs.Ytjncpibhnpoghaa
