import Derived.Test.YtkfchdmlemcjhaaDoorDcA
import Derived.Deep.DeepAppendWide
import Derived.Deep.RegionLaw
import Derived.Deep.CutRange
namespace Go.Proofs.YtkfchdmlemcjhaaDoor.Dec
open Go.RowKit

theorem Try.infoI : (Tryd.prog.info? 3).map (fun i => (i.zero, i.size, i.bytes)) = some (some (.int .i64 0), 1, 8) := by kernel_rfl

/-- append onto a row of one's own, as one step of a region that draws. -/
theorem step_append_own {P : Program} {ops : Array Oper} {o : Oper} {a : Act} {w : World} {K : Act → World → Prop} {Q : Exit → Act → World → Prop} {E : Prop} (hg : o.guard = none) (s x : Operand) (t : TypeId)
    (ho : o.op = .call { callee := .builtin .append, args := #[s, x], argTypes := #[t, t] })
    (base : Nat) (e : TypeId) (i : TypeInfo) (z : Value) (size bytes : Nat) (ht : P.underlying t = some (.slice e)) (hi : P.info? e = some i) (hz : i.zero = some z)
    (hsize : i.size = size) (hby : i.bytes = bytes) (hzs : z.cells.size = size) (hsz : 0 < size)
    (v : Value) (n : Nat) (xs : List Value) (hs : a.eval s = v) (hown : w.ownsRow base e size v n xs)
    (ad : Addr) (m c : Nat) (news : List Value) (hx : a.eval x = .slice (some ad) m c) (hl : news.length = m * size) (hnews : ∀ j u, news[j]? = some u → w.cell? (ad.add j) = some u) (h1 : ∀ u ∈ news, u.oneCell' = true)
    (h63 : n + m ≤ maxLen) (hbytes : ((n + m) + (n + m) / 4 + 192) * bytes ≤ 281474976710656) (hbase : base ≤ w.heap.size)
    (h : ∀ v' w', w'.ownsRow base e size v' (n + m) (xs ++ news) → w.grownBy w' v.ownBlock → (v' = .slice none 0 0 ↔ v = .slice none 0 0 ∧ m = 0) → K (a.put o.dst v') w') :
    if Region.wanted o (yielded ops a.tmps) = true then Oper.wp P o a w K Q else E := by
  have hw : Region.wanted o (yielded ops a.tmps) = true := by simp [Region.wanted, hg]
  rw [if_pos hw]
  exact wp_append_own_wide w s x t ho base e i z size bytes ht hi hz hsize hby hzs hsz v n xs hs hown ad m c news hx hl hnews h1 h63 hbytes hbase h

/-- Whole numbers as the model's values. -/
def I (x : Int) : Value := .int .i64 x

/-- The document's number in a block that one may write. -/
structure RBox (W : World) (b : Nat) (m : Bool) (s1 : Value) (o : Int) (p : Bool) (s2 : Value) (pl : Bool) (t : List UInt8) : Prop where
  c0 : W.cell? ⟨b, 0, none⟩ = some (.bool m)
  c1 : W.cell? ⟨b, 1, none⟩ = some s1
  c2 : W.cell? ⟨b, 2, none⟩ = some (.int .i64 o)
  c3 : W.cell? ⟨b, 3, none⟩ = some (.bool p)
  c4 : W.cell? ⟨b, 4, none⟩ = some s2
  c5 : W.cell? ⟨b, 5, none⟩ = some (.bool pl)
  c6 : W.cell? ⟨b, 6, none⟩ = some (.string ⟨t.toArray⟩)
  f0 : W.frozen? ⟨b, 0, none⟩ = false
  f1 : W.frozen? ⟨b, 1, none⟩ = false
  f2 : W.frozen? ⟨b, 2, none⟩ = false
  f3 : W.frozen? ⟨b, 3, none⟩ = false
  f4 : W.frozen? ⟨b, 4, none⟩ = false
  f5 : W.frozen? ⟨b, 5, none⟩ = false
  f6 : W.frozen? ⟨b, 6, none⟩ = false
  lt : b < W.heap.size

theorem RBox.same {W W' : World} {b : Nat} {m p pl : Bool} {s1 s2 : Value} {o : Int} {t : List UInt8} (h : RBox W b m s1 o p s2 pl t) (hs : W.heap.size ≤ W'.heap.size) (hb : W'.heap[b]? = W.heap[b]?) : RBox W' b m s1 o p s2 pl t := by
  have hc : ∀ k, W'.cell? ⟨b, k, none⟩ = W.cell? ⟨b, k, none⟩ := fun k => World.cell?_of_block (w := W) hb
  have hf : ∀ k, W'.frozen? ⟨b, k, none⟩ = W.frozen? ⟨b, k, none⟩ := fun k => World.frozen?_of_block (w := W) hb
  exact ⟨(hc _).trans h.c0, (hc _).trans h.c1, (hc _).trans h.c2, (hc _).trans h.c3, (hc _).trans h.c4, (hc _).trans h.c5, (hc _).trans h.c6,
    (hf _).trans h.f0, (hf _).trans h.f1, (hf _).trans h.f2, (hf _).trans h.f3, (hf _).trans h.f4, (hf _).trans h.f5, (hf _).trans h.f6, Nat.lt_of_lt_of_le h.lt hs⟩

theorem RBox.alloc {W : World} {b : Nat} {m p pl : Bool} {s1 s2 : Value} {o : Int} {t : List UInt8} (h : RBox W b m s1 o p s2 pl t) (x : Obj) : RBox (W.alloc x) b m s1 o p s2 pl t :=
  h.same (by rw [World.size_alloc]; omega) (Below.heap_alloc W x b h.lt)
theorem RBox.drew {W : World} {b : Nat} {m p pl : Bool} {s1 s2 : Value} {o : Int} {t : List UInt8} (h : RBox W b m s1 o p s2 pl t) : RBox W.drew b m s1 o p s2 pl t := h.same (Nat.le_refl _) rfl
theorem RBox.drewN {W : World} {b : Nat} {m p pl : Bool} {s1 s2 : Value} {o : Int} {t : List UInt8} (h : RBox W b m s1 o p s2 pl t) (n : Nat) : RBox (W.drewN n) b m s1 o p s2 pl t := h.same (Nat.le_refl _) rfl
theorem RBox.below {W W' : World} {b B : Nat} {m p pl : Bool} {s1 s2 : Value} {o : Int} {t : List UInt8} (h : RBox W b m s1 o p s2 pl t) (hB : Below B W W') (hb : b < B) : RBox W' b m s1 o p s2 pl t :=
  h.same hB.size (hB.block b hb)

/-- Does a digit stand at the place? -/
def isDA (l : List UInt8) (k : Nat) : Bool := if h : k < l.length then isD l[k] else false

set_option maxHeartbeats 400000 in
theorem rdigit_any (l : List UInt8) (k : Nat) (w : World) (_hlen : l.length ≤ 281474976710656) (_hk : k ≤ 281474976710656) :
    Calls Tryd.prog 51 #[.string ⟨l.toArray⟩, .int .i64 k] w fun e w' => e = .returned (.bool (isDA l k)) ∧ w' = w := by
  by_cases hlt : k < l.length
  · obtain ⟨c, hc⟩ : ∃ c, l[k] = c := ⟨_, rfl⟩
    have gx : (⟨l.toArray⟩ : ByteArray)[k]'(by show k < l.toArray.size; simpa using hlt) = c := hc
    have Hr : Hid ((isDA l k) = isD c) := by show _ = _; unfold isDA; rw [dif_pos hlt, hc]
    clear hc
    by_cases hD : isD c = true
    · have h1 : 48 ≤ c.toNat := by unfold isD at hD; simp at hD; exact hD.1
      have h2 : c.toNat ≤ 57 := by unfold isD at hD; simp at hD; exact hD.2
      have HD : Hid (isD c = true) := hD
      have hb : decide ((c.toNat : Int) ≤ 57) = true := by simp; omega
      clear hD
      go_enter Tryd.func51, Tryd.ntmps51
      go_wp2
      go_ret
      rw [Hr.out, HD.out]
      exact ⟨rfl, rfl⟩
    · have hD' : isD c = false := by simpa using hD
      have HD : Hid (isD c = false) := hD'
      have hcase : (¬ 48 ≤ c.toNat) ∨ (48 ≤ c.toNat ∧ decide ((c.toNat : Int) ≤ 57) = false) := by
        unfold isD at hD; simp at hD
        by_cases h : 48 ≤ c.toNat
        · exact .inr ⟨h, by simp; omega⟩
        · exact .inl h
      clear hD hD'
      rcases hcase with h1 | ⟨h1, h2⟩
      all_goals
        go_enter Tryd.func51, Tryd.ntmps51
        go_wp2
        go_ret
        rw [Hr.out, HD.out]
        exact ⟨rfl, rfl⟩
  · have Hr : Hid ((isDA l k) = false) := by show _ = _; unfold isDA; rw [dif_neg hlt]
    go_enter Tryd.func51, Tryd.ntmps51
    go_wp2
    go_ret
    rw [Hr.out]
    exact ⟨rfl, rfl⟩

theorem nd_drop (l : List UInt8) (k j : Nat) (hk : k ≤ l.length) (hj : j ≤ nd (l.drop k)) : k + j ≤ l.length ∧ ((isDA l (k + j)) = true ↔ j < nd (l.drop k)) := by
  have h1 := nd_le (l.drop k)
  rw [List.length_drop] at h1
  refine ⟨by omega, ?_⟩
  by_cases h : k + j < l.length
  · unfold isDA
    rw [dif_pos h]
    have h2 := nd_lt (l.drop k) j hj (by rw [List.length_drop]; omega)
    rw [List.getElem_drop] at h2
    exact h2.symm
  · unfold isDA
    rw [dif_neg h]
    simp; omega

set_option maxHeartbeats 400000 in
theorem many_any (l : List UInt8) (k : Nat) (w : World) (hlen : l.length ≤ 281474976710656) (hk : k ≤ l.length) :
    Calls Tryd.prog 46 #[.string ⟨l.toArray⟩, .int .i64 k] w fun e w' => e = .returned (.int .i64 ((k + nd (l.drop k) : Nat) : Int)) ∧ w' = w := by
  go_enter Tryd.func46, Tryd.ntmps46
  go_wp2
  go_loop [1] (fun s => ∃ j : Nat, s = .int .i64 ((k + j : Nat) : Int) ∧ j ≤ nd (l.drop k)) (fun s => l.length - (intOf s).toNat)
  case atStart => exact ⟨0, rfl, Nat.zero_le _⟩
  case round =>
    obtain ⟨j, rfl, hj⟩ := hrel
    have Hn : Hid (_ ∧ _) := nd_drop l k j hk hj
    have hkj := Hn.out.1
    obtain ⟨x, hx⟩ : ∃ x, x = k + j := ⟨_, rfl⟩
    rw [← hx] at Hn hkj ⊢
    by_cases hd : (isDA l x) = true
    · have Hd : Hid ((isDA l x) = true) := hd
      have hj2 : j < nd (l.drop k) := Hn.out.2.1 hd
      have hxl : x < l.length := by
        rcases Nat.lt_or_ge x l.length with h | h
        · exact h
        · unfold isDA at hd; rw [dif_neg (by omega)] at hd; cases hd
      have Hx : Hid (x = k + j) := hx
      clear hd hx Hn
      go_wp2_with fail
      refine (rdigit_any l x w hlen (by omega)).mono ?_
      rintro e w' ⟨rfl, rfl⟩
      rw [Hd.out]
      go_wp2
      go_round
      case rel => exact ⟨j + 1, by rw [Hx.out]; go_num, by omega⟩
      case measure => simp [intOf]; omega
    · have hd' : (isDA l x) = false := by simpa using hd
      have Hd : Hid ((isDA l x) = false) := hd'
      have hj2 : ¬ j < nd (l.drop k) := fun h => hd (Hn.out.2.2 h)
      have Hx : Hid (k + nd (l.drop k) = x) := by show _ = _; omega
      clear hd hd' hx Hn hj2
      go_wp2_with fail
      refine (rdigit_any l x w hlen (by omega)).mono ?_
      rintro e w' ⟨rfl, rfl⟩
      rw [Hd.out]
      go_wp2
      go_ret
      rw [Hx.out]
      exact ⟨rfl, rfl⟩

end Go.Proofs.YtkfchdmlemcjhaaDoor.Dec