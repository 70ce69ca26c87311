import Derived.Test.YtmngdaolgdhgmaaGreatDoorNtZ4
import Derived.Test.YtmngdaolgdhgmaaGreatDoorNtZ2
import Derived.Deep.DeepAppendWide
import Derived.OwnWalk
import Derived.Laws.AppendOwnNone
namespace Go.Proofs.YtmngdaolgdhgmaaGreatDoor
open Go.RowKit

set_option maxHeartbeats 400000 in
theorem fromUint_any (u : Nat) (w : World) (hu : u < 18446744073709551616) :
    Calls Tryz.prog 86 #[.int .u64 (u : Int)] w fun e w' => ∃ r, e = .returned r ∧ Ow w' w.heap.size r (dg Bs u) ∧ Below w.heap.size w w' := by
  have e1 : IntKind.u32.wrap (u : Int) = ((u % 4294967296 : Nat) : Int) := by rw [IntKind.wrap_u32]; omega
  have e2 : IntKind.u32.wrap ((u : Int) / 4294967296) = ((u / 4294967296 : Nat) : Int) := by rw [IntKind.wrap_u32]; omega
  go_enter Tryz.func86, Tryz.ntmps86
  go_wp2_with fail
  have hb : Bl 51 (w.alloc (.cells #[.int .u32 ((u : Int) % 4294967296), .int .u32 ((u : Int) / 4294967296)] 51)) w.heap.size (([u % 4294967296, u / 4294967296] : List Nat).map U) := by
    have := alloc_bl w (([u % 4294967296, u / 4294967296] : List Nat).map U) 51
    exact this
  have hbel := alloc_below w (.cells #[.int .u32 ((u : Int) % 4294967296), .int .u32 ((u : Int) / 4294967296)] 51)
  have sL : Sm Bs [u % 4294967296, u / 4294967296] := fun y hy => by
    rw [Bs_eq]
    simp at hy
    omega
  have C := proper_any (some ⟨w.heap.size, 0, none⟩) 2 2 [u % 4294967296, u / 4294967296] _ hb.rn rfl (Nat.le_refl _) (by decide)
  have HA : Hid (Ow (w.alloc (.cells #[.int .u32 ((u : Int) % 4294967296), .int .u32 ((u : Int) / 4294967296)] 51)) w.heap.size (.slice (some ⟨w.heap.size, 0, none⟩) (tl [u % 4294967296, u / 4294967296]) 2) (dg Bs u)) := by
    have h1 := hb.proper sL (Nat.le_refl _) (by simp)
    have h2 : nv Bs [u % 4294967296, u / 4294967296] = u := by simp only [nv, Nat.mul_zero, Nat.add_zero]; rw [Bs_eq]; omega
    rw [h2] at h1
    exact h1
  have HB : Hid (Below w.heap.size w (w.alloc (.cells #[.int .u32 ((u : Int) % 4294967296), .int .u32 ((u : Int) / 4294967296)] 51))) := hbel
  clear hb hbel sL
  generalize w.alloc (.cells #[.int .u32 ((u : Int) % 4294967296), .int .u32 ((u : Int) / 4294967296)] 51) = w1 at *
  refine C.mono ?_
  clear C
  rintro e w1 ⟨rfl, rfl⟩
  go_wp2
  go_ret
  exact ⟨_, rfl, HA.out, HB.out⟩

end Go.Proofs.YtmngdaolgdhgmaaGreatDoor

namespace Go.Proofs.YtmngdaolgdhgmaaGreatDoor
open Go.RowKit

end Go.Proofs.YtmngdaolgdhgmaaGreatDoor

namespace Go.Proofs.YtmngdaolgdhgmaaGreatDoor
open Go.RowKit

theorem Ow.two {w : World} {base : Nat} {v : Value} {a b : Nat} (h : Ow w base v [a, b]) : ∃ g cap : Nat, v = .slice (some ⟨g, 0, none⟩) 2 cap ∧ w.cell? ⟨g, 0, none⟩ = some (.int .u32 (a : Int)) ∧ w.cell? ⟨g, 1, none⟩ = some (.int .u32 (b : Int)) := by
  rcases h.2 with ⟨_, h0⟩ | ⟨g, cap, cur, rfl, r⟩
  · simp at h0
  · exact ⟨g, cap, rfl, World.ownsRow.cellAt h 0 (by simp), World.ownsRow.cellAt h 1 (by simp)⟩
theorem Ow.none {w : World} {base : Nat} {v : Value} (h : Ow w base v []) : ∃ (a : Option Addr) (cap : Nat), v = .slice a 0 cap := by
  rcases h.2 with ⟨h0, _⟩ | ⟨g, cap, cur, e, r⟩
  · exact ⟨_, _, h0⟩
  · exact ⟨_, _, e⟩
theorem cell_below {w w' : World} {g o n : Nat} {v : Value} (h : w.cell? ⟨g, o, none⟩ = some v) (hb : Below n w w') (hn : w.heap.size ≤ n) : w'.cell? ⟨g, o, none⟩ = some v := cell_but h fun hg => hb.block _ (by omega)

end Go.Proofs.YtmngdaolgdhgmaaGreatDoor

namespace Go.Proofs.YtmngdaolgdhgmaaGreatDoor
open Go.RowKit

/-- How long sums and products are. -/
theorem dgl_add (U V k m : Nat) (hu : (dg Bs U).length ≤ k) (hv : (dg Bs V).length ≤ m) : (dg Bs (U + V)).length ≤ k + m + 1 := by
  have h := sum_fits Bs_two (k + m + 1) (dg_sm Bs_two U) (dg_sm Bs_two V) (by omega) (by omega)
  rw [dg_nv Bs_two, dg_nv Bs_two] at h
  exact dg_len Bs_two _ _ h
theorem dgl_mul (U V k m : Nat) (hu : (dg Bs U).length ≤ k) (hv : (dg Bs V).length ≤ m) : (dg Bs (U * V)).length ≤ k + m := by
  have h1 : U < Bs ^ k := Nat.lt_of_lt_of_le (dg_up Bs_two U) (Nat.pow_le_pow_right Bs_pos hu)
  have h2 : V < Bs ^ m := Nat.lt_of_lt_of_le (dg_up Bs_two V) (Nat.pow_le_pow_right Bs_pos hv)
  refine dg_len Bs_two _ _ ?_
  rw [Nat.pow_add]
  exact Nat.mul_lt_mul'' h1 h2
theorem dgl_le (U V k : Nat) (h : U ≤ V) (hv : (dg Bs V).length ≤ k) : (dg Bs U).length ≤ k :=
  dg_len Bs_two _ _ (Nat.lt_of_le_of_lt h (Nat.lt_of_lt_of_le (dg_up Bs_two V) (Nat.pow_le_pow_right Bs_pos hv)))
theorem dgl_arg (xs : List Nat) (k : Nat) (hs : Sm Bs xs) (h : xs.length ≤ k) : (dg Bs (nv Bs xs)).length ≤ k := dg_len Bs_two _ _ (Nat.lt_of_lt_of_le (nv_lt Bs_pos hs) (Nat.pow_le_pow_right Bs_pos h))

/-- A value that is a number, of that value, of no more limbs than that. -/
def Vl (w : World) (v : Value) (V k : Nat) : Prop := ∃ xs, Nm w v xs ∧ nv Bs xs = V ∧ xs.length ≤ k
theorem Vl.below {w w' : World} {v : Value} {V k n : Nat} (h : Vl w v V k) (hb : Below n w w') (hn : w.heap.size ≤ n) : Vl w' v V k := by
  obtain ⟨xs, h1, h2⟩ := h; exact ⟨xs, h1.below hb hn, h2⟩
theorem Vl.drewN {w : World} {v : Value} {V k : Nat} (h : Vl w v V k) (q : Nat) : Vl (w.drewN q) v V k := h
theorem Ow.vl {w : World} {base : Nat} {v : Value} {V k : Nat} (h : Ow w base v (dg Bs V)) (hk : (dg Bs V).length ≤ k) : Vl w v V k := ⟨_, h.nm (dg_sm Bs_two V), dg_nv Bs_two V, hk⟩
theorem Vl.len {w : World} {v : Value} {V k : Nat} (h : Vl w v V k) : (dg Bs V).length ≤ k := by
  obtain ⟨xs, h1, h2, h3⟩ := h
  rw [← h2]; exact dgl_arg xs k h1.sm h3

/-- A new number. -/
def New (w w' : World) (r : Value) (V k : Nat) : Prop := Ow w' w.heap.size r (dg Bs V) ∧ (dg Bs V).length ≤ k ∧ Below w.heap.size w w'

theorem vadd (v u : Value) (U V k m : Nat) (w : World) (hv : Vl w v U k) (hu : Vl w u V m) (hk : k ≤ 100000000) (hm : m ≤ 100000000) :
    Calls Tryz.prog 84 #[v, u] w fun e w' => ∃ r, e = .returned r ∧ New w w' r (U + V) (k + m + 1) := by
  have l1 := hv.len
  have l2 := hu.len
  obtain ⟨xs, n1, rfl, k1⟩ := hv
  obtain ⟨ys, n2, rfl, k2⟩ := hu
  refine (add_nm v u xs ys w n1 n2 (by omega) (by omega)).mono ?_
  rintro e w' ⟨r, rfl, h1, h2⟩
  exact ⟨r, rfl, h1, dgl_add _ _ _ _ l1 l2, h2⟩
theorem vmul (v u : Value) (U V k m : Nat) (w : World) (hv : Vl w v U k) (hu : Vl w u V m) (hk : k ≤ 100000000) (hm : m ≤ 100000000) :
    Calls Tryz.prog 81 #[v, u] w fun e w' => ∃ r, e = .returned r ∧ New w w' r (U * V) (k + m) := by
  have l1 := hv.len
  have l2 := hu.len
  obtain ⟨xs, n1, rfl, k1⟩ := hv
  obtain ⟨ys, n2, rfl, k2⟩ := hu
  refine (mul_nm v u xs ys w n1 n2 (by omega) (by omega)).mono ?_
  rintro e w' ⟨r, rfl, h1, h2⟩
  exact ⟨r, rfl, h1, dgl_mul _ _ _ _ l1 l2, h2⟩
theorem vsub (v u : Value) (U V k m : Nat) (w : World) (hv : Vl w v U k) (hu : Vl w u V m) (hk : k ≤ 100000000) (hm : m ≤ 100000000) :
    Calls Tryz.prog 109 #[v, u] w fun e w' => ∃ r, e = .returned (.tuple #[r, .bool (decide (V ≤ U))]) ∧ New w w' r (U - V) k := by
  have l1 := hv.len
  obtain ⟨xs, n1, rfl, k1⟩ := hv
  obtain ⟨ys, n2, rfl, k2⟩ := hu
  refine (sub_nm v u xs ys w n1 n2 (by omega) (by omega)).mono ?_
  rintro e w' ⟨r, rfl, h1, h2⟩
  exact ⟨r, rfl, h1, dgl_le _ _ _ (Nat.sub_le _ _) l1, h2⟩
theorem vcmp (v u : Value) (U V k m : Nat) (w : World) (hv : Vl w v U k) (hu : Vl w u V m) (hk : k ≤ 100000000) (hm : m ≤ 100000000) :
    Calls Tryz.prog 68 #[v, u] w fun e w' => e = .returned (.int .i64 (cmp3 U V)) ∧ ∃ q, w' = w.drewN q := by
  obtain ⟨xs, n1, rfl, k1⟩ := hv
  obtain ⟨ys, n2, rfl, k2⟩ := hu
  exact cmp_nm v u xs ys w n1 n2 (by omega) (by omega)
theorem vbits (v : Value) (U k : Nat) (w : World) (hv : Vl w v U k) (hk : k ≤ 100000000) :
    Calls Tryz.prog 67 #[v] w fun e w' => e = .returned (.int .i64 ((bl U : Nat) : Int)) ∧ w' = w := by
  obtain ⟨xs, n1, rfl, k1⟩ := hv
  exact bits_nm v xs w n1 (by omega)
theorem vdiv (v u : Value) (U V k m : Nat) (w : World) (hv : Vl w v U k) (hu : Vl w u V m) (hk : k ≤ 100000000) (hm : m ≤ 100000000) (h0 : V ≠ 0) :
    Calls Tryz.prog 93 #[v, u] w fun e w' => ∃ q r, e = .returned (.tuple #[q, r, .int .i64 0]) ∧ New w w' q (U / V) k ∧ New w w' r (U % V) m := by
  have l1 := hv.len
  have l2 := hu.len
  obtain ⟨xs, n1, rfl, k1⟩ := hv
  obtain ⟨ys, n2, rfl, k2⟩ := hu
  refine (divmod_pos v u xs ys w n1 n2 (by omega) (by omega) h0).mono ?_
  rintro e w' ⟨q, r, b2, rfl, h1, h2, h3, _, h4⟩
  exact ⟨q, r, rfl, ⟨h1, dgl_le _ _ _ (Nat.div_le_self _ _) l1, h4⟩, h2.base h3, dgl_le _ _ _ (Nat.le_of_lt (Nat.mod_lt _ (by omega))) l2, h4⟩
end Go.Proofs.YtmngdaolgdhgmaaGreatDoor

namespace Go.Proofs.YtmngdaolgdhgmaaGreatDoor
open Go.RowKit

/-- A row of one's own, made since a world. -/
structure OB (B0 : Nat) (w ws : World) (v : Value) (xs : List Nat) : Prop where
  own : Ow ws B0 v xs
  bel : Below B0 w ws

theorem OB.nil (w : World) : OB w.heap.size w w (.slice none 0 0) [] := ⟨Ow.nil _ _, Below.refl _ _⟩
theorem OB.shape {B0 : Nat} {w ws : World} {v : Value} {xs : List Nat} (h : OB B0 w ws v xs) : ∃ a c, v = .slice a xs.length c := by
  rcases h.own.2 with ⟨e, h0⟩ | ⟨g, cap, cur, e, _⟩
  · exact ⟨none, 0, by rw [h0]; exact e⟩
  · exact ⟨_, _, e⟩
theorem own_block {w : World} {base n : Nat} {e : TypeId} {v : Value} {xs : List Value} (h : w.ownsRow base e 1 v n xs) : ∀ k, v.ownBlock = some k → base ≤ k := fun k hk => (h.lt k hk).1

/-- append of limbs that can be read, nil ones too, behind a row of one's own. -/
theorem append_rn {w : World} {ops : Array Oper} {rest : List Oper} {o : Oper} {a : Act} {Q : Exit → Act → World → Prop} (hgd : o.guard = none) (s x : Operand)
    (ho : o.op = .call { callee := .builtin .append, args := #[s, x], argTypes := #[24, 24] })
    (base : Nat) (v : Value) (xs : List Nat) (hs : a.eval s = v) (hown : Ow w base v xs)
    (ao : Option Addr) (m c : Nat) (l : List Nat) (hx : a.eval x = .slice ao m c) (hl : l.length = m) (hao : ao = none → m = 0 ∧ c = 0) (hrd : Rn w ao l)
    (hbytes : xs.length + m ≤ 10000000000) (hbase : base ≤ w.heap.size)
    (h : ∀ v' w', Ow w' base v' (xs ++ l) → w.grownBy w' v.ownBlock → wpList Tryz.prog ops Q rest (a.put o.dst v') w') : wpList Tryz.prog ops Q (o :: rest) a w := by
  obtain ⟨i, hi, hz, hsize, hby⟩ := info_parts infoU
  cases ao with
  | none =>
    obtain ⟨rfl, rfl⟩ := hao rfl
    obtain rfl := List.eq_nil_of_length_eq_zero hl
    refine wpList_append_own_none hgd s x 24 ho base 51 i 1 Tryz.underlying24 hi v xs.length (xs.map U) hs hown hx ?_
    exact h v w (by rw [List.append_nil]; exact hown) (World.grownBy.refl _ _)
  | some ad =>
    refine wpList_append_own_wide w hgd s x 24 ho base 51 i (.int .u32 0) 1 4 Tryz.underlying24 hi hz hsize hby rfl (by decide) v xs.length (xs.map U) hs hown ad m c (l.map U) hx (by simpa using hl) ?_ (oneU l) (by unfold maxLen; omega) (by omega) hbase ?_
    · intro j u hu
      rcases hrd with h0 | ⟨b, off, e, hb, hc⟩
      · subst h0; simp at hu
      · cases e
        have hj : j < l.length := by
          have := (List.getElem?_eq_some_iff.1 hu).1
          simpa using this
        rw [Addr.add_lit, hc j hj]
        simp [List.getElem?_map, List.getElem?_eq_getElem hj] at hu
        rw [← hu, getD_eq _ _ hj]
    · intro v' w' h1 h2 _
      refine h v' w' ?_ h2
      unfold Ow
      rw [List.map_append, List.length_append, hl]
      exact h1

/-- append of one limb. -/
theorem append_one {w wr : World} {ops : Array Oper} {rest : List Oper} {o : Oper} {a : Act} {Q : Exit → Act → World → Prop} (hgd : o.guard = none) (s x : Operand)
    (ho : o.op = .call { callee := .builtin .append, args := #[s, x], argTypes := #[24, 24] })
    (B0 : Nat) (v : Value) (xs : List Nat) (z : Nat) (hs : a.eval s = v) (hob : OB B0 w wr v xs) (hx : a.eval x = .slice (some ⟨wr.heap.size, 0, none⟩) 1 1) (hl : xs.length ≤ 1000000000) (hB : B0 ≤ w.heap.size)
    (h : ∀ v' w', OB B0 w w' v' (xs ++ [z]) → wpList Tryz.prog ops Q rest (a.put o.dst v') w') : wpList Tryz.prog ops Q (o :: rest) a (wr.alloc (.cells #[.int .u32 (z : Int)] 51)) := by
  have hs2 : B0 ≤ wr.heap.size := Nat.le_trans hB hob.bel.size
  have hbl := alloc_bl wr (([z] : List Nat).map U) 51
  refine append_rn hgd s x ho B0 v xs hs (hob.own.below (alloc_below wr _) (Nat.le_refl _)) (some ⟨wr.heap.size, 0, none⟩) 1 1 [z] hx rfl (fun e => by cases e) hbl.rn (by omega) (by rw [World.size_alloc]; omega) ?_
  intro v' w' h1 h2
  exact h v' w' ⟨h1, hob.bel.trans ((((alloc_below wr _).mono hs2)).grown h2 (by rw [World.size_alloc]; omega) (own_block hob.own))⟩

set_option maxHeartbeats 400000 in
theorem rlimb_any (ao : Option Addr) (n c k : Nat) (xs : List Nat) (w : World) (hx : Rn w ao xs) (sx : Sm Bs xs) (hn : n = xs.length) :
    Calls Tryz.prog 70 #[.slice ao n c, .int .i64 (k : Int)] w fun e w' => e = .returned (.int .u64 ((xs.getD k 0 : Nat) : Int)) ∧ w' = w := by
  have Hn : Hid (n = xs.length) := hn
  clear hn
  by_cases h2 : k < n
  · obtain ⟨g, off, rfl, _, hcell⟩ := hx.cell (by have := Hn.out; omega)
    have gc := hcell k (by have := Hn.out; omega)
    have hb : xs.getD k 0 < 4294967296 := by rw [← Bs_eq]; exact sx.getD Bs_pos k
    generalize xs.getD k 0 = x at gc hb ⊢
    clear hcell sx
    go_enter Tryz.func70, Tryz.ntmps70
    go_wp2
    go_ret
    exact ⟨rfl, rfl⟩
  · rw [getD_none _ _ (by have := Hn.out; omega)]
    go_enter Tryz.func70, Tryz.ntmps70
    go_wp2
    go_ret
    exact ⟨rfl, rfl⟩

set_option maxHeartbeats 1000000 in
theorem rproper_any (ao : Option Addr) (n c : Nat) (xs : List Nat) (w : World) (hx : Rn w ao xs) (sx : Sm Bs xs) (hn : n = xs.length) (hl : n ≤ 1000000000) :
    Calls Tryz.prog 91 #[.slice ao n c] w fun e w' => ∃ r, e = .returned r ∧ Ow w' w.heap.size r (dg Bs (nv Bs xs)) ∧ Below w.heap.size w w' := by
  have Hx : Hid (Rn w ao xs) := hx
  have Hn : Hid (n = xs.length) := hn
  have Hs : Hid (Sm Bs xs) := sx
  have HN0 : Hid (OB w.heap.size w w (.slice none 0 0) (xs.take 0)) := OB.nil w
  clear hx hn sx
  go_enter Tryz.func91, Tryz.ntmps91
  go_wp2
  go_loop [3] (fun s => ∃ k : Nat, s = .int .i64 (k : Int) ∧ k ≤ n ∧ Hid (∀ j, k ≤ j → xs.getD j 0 = 0)) (fun s => (intOf s).toNat)
  case atStart => exact ⟨n, rfl, Nat.le_refl _, fun j hj => getD_none _ _ (by have := Hn.out; omega)⟩
  case round =>
    obtain ⟨k, rfl, hk, Hz⟩ := hrel
    by_cases hz : 0 < k ∧ xs.getD (k - 1) 0 = 0
    · obtain ⟨k, rfl⟩ : ∃ j, k = j + 1 := ⟨k - 1, by omega⟩
      obtain ⟨g, off, rfl, _, hcell⟩ := Hx.out.cell (by have := Hn.out; omega)
      have gc := hcell k (by have := Hn.out; omega)
      rw [Nat.add_sub_cancel] at hz
      rw [hz.2] at gc
      have Hz1 : Hid (∀ j, k ≤ j → xs.getD j 0 = 0) := fun j hj => by
        rcases Nat.lt_or_ge k j with h | h
        · exact Hz.out j h
        · obtain rfl : j = k := by omega
          exact hz.2
      have e1 : ((k + 1 : Nat) : Int) - 1 = (k : Int) := by omega
      rw [show ((0 : Nat) : Int) = 0 from rfl] at gc
      clear hcell hz
      go_wp2
      go_round
      case rel => exact ⟨k, rfl, by omega, Hz1⟩
      case measure => simp [intOf]
    · have Ht : Hid (tl xs = k) := tl_of xs k (by have := Hn.out; omega) Hz.out (by omega)
      have HX : Hid (xs.take k = dg Bs (nv Bs xs)) := by show _ = _; rw [← Ht.out]; exact trim_dg Bs_two Hs.out
      have HZ : Hid (True → k = 0 ∨ xs.getD (k - 1) 0 ≠ 0) := fun _ => by omega
      clear hz Hz Ht
      have KEY : k = 0 ∨ ∃ (j g off x : Nat), k = j + 1 ∧ ao = some ⟨g, off, none⟩ ∧ w.cell? ⟨g, off + j, none⟩ = some (.int .u32 (x : Int)) ∧ (((x : Int) == 0) = false) := by
        rcases Nat.eq_zero_or_pos k with h | h
        · exact .inl h
        · obtain ⟨g, off, e, _, hcell⟩ := Hx.out.cell (by have := Hn.out; omega)
          refine .inr ⟨k - 1, g, off, xs.getD (k - 1) 0, by omega, e, hcell (k - 1) (by have := Hn.out; omega), ?_⟩
          have := HZ.out trivial
          simp only [beq_eq_false_iff_ne]
          omega
      clear HZ
      rcases KEY with rfl | ⟨j, g, off, x, rfl, rfl, gc, hxb⟩
      · go_wp2
        go_loopw [4, 5] (fun s4 s5 wr => s4 = .slice none 0 0 ∧ s5 = .int .i64 0 ∧ wr = w) (fun _ _ _ => 0)
        case atStart => exact ⟨rfl, rfl, rfl⟩
        case round =>
          obtain ⟨rfl, rfl, rfl⟩ := hrel
          go_wp2
          go_ret
          refine ⟨_, rfl, ?_, Below.refl _ _⟩
          rw [← HX.out, List.take_zero]
          exact Ow.nil _ _
      · have e1 : ((j + 1 : Nat) : Int) - 1 = (j : Int) := by omega
        go_wp2
        clear gc hxb
        go_loopw [4, 5] (fun s4 s5 wr => ∃ i : Nat, s5 = .int .i64 (i : Int) ∧ i ≤ j + 1 ∧ Hid (OB w.heap.size w wr s4 (xs.take i))) (fun _ s _ => j + 1 - (intOf s).toNat)
        case atStart => exact ⟨0, rfl, Nat.zero_le _, HN0⟩
        case round =>
          clear HN0
          obtain ⟨i, rfl, hi, HI⟩ := hrel
          by_cases hlt : i < j + 1
          · have hix : i < xs.length := by have := Hn.out; omega
            obtain ⟨g', off', e', _, hcell⟩ := (Hx.out.below HI.out.bel (Nat.le_refl _)).cell (by omega)
            cases e'
            have gc := hcell i hix
            obtain ⟨y, Hy⟩ : ∃ y, Hid (xs.getD i 0 = y) := ⟨_, rfl⟩
            rw [Hy.out] at gc
            have hil : (i : Int) < (j : Int) + 1 := by omega
            have HL : Hid ((xs.take i).length ≤ 1000000000) := by show _ ≤ _; rw [List.length_take]; omega
            clear hcell
            go_wp2_with (at_builtin; refine append_one (w := w) rfl (.tmp 25) (.tmp 30) rfl w.heap.size _ (xs.take i) y rfl HI.out rfl HL.out (Nat.le_refl _) ?_; intro v5 w5 h5)
            have HO : Hid (OB w.heap.size w w5 v5 (xs.take (i + 1))) := by
              rw [List.take_succ_eq_append_getElem hix, ← getD_eq _ _ hix, Hy.out]; exact h5
            clear h5
            go_wp2
            go_roundw
            case rel => exact ⟨i + 1, by go_num, by omega, HO⟩
            case measure => simp [intOf]; omega
          · obtain rfl : i = j + 1 := by omega
            have hil : ¬ (((j + 1 : Nat) : Int) < (j : Int) + 1) := by omega
            go_wp2
            go_ret
            refine ⟨_, rfl, ?_, HI.out.bel⟩
            rw [← HX.out]
            exact HI.out.own

end Go.Proofs.YtmngdaolgdhgmaaGreatDoor
