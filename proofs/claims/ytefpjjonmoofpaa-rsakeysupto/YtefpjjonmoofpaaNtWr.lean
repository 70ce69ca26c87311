import Derived.Test.YtefpjjonmoofpaaNtLsame
import Derived.Test.YtefpjjonmoofpaaNtRef3
namespace Go.Proofs.Ytefpjjonmoofpaa
open Go.RowKit

/-- The n lowest bytes of a number, the most significant first. -/
def tobe (n N : Nat) : List UInt8 := (List.range n).map fun i => UInt8.ofNat (N / 256 ^ (n - 1 - i) % 256)
theorem tobe_length (n N : Nat) : (tobe n N).length = n := by simp [tobe]

theorem madeB (w : World) (n : Nat) (hn : n ≤ 10000000000) : ∃ wm, (Instr.makeSlice 22 (.int .i64 (n : Int)) (.int .i64 (n : Int))).run Try.prog w = .ok (.slice (some ⟨w.heap.size, 0, none⟩) n n) wm ∧ Bl 5 wm w.heap.size ((List.replicate n (0 : UInt8)).map B) ∧ Below w.heap.size w wm := by
  obtain ⟨i0, hi, hz0, hz1, hz2⟩ := info_parts infoB
  refine ⟨w.alloc (.cells ((List.replicate n (0 : UInt8)).map B).toArray 5), ?_, alloc_bl _ _ _, alloc_below _ _⟩
  rw [run_make w 22 5 i0 (.int .u8 0) Try.underlying22 hi hz0 .i64 .i64 (n : Int) (n : Int) (by omega) (by omega) (by rw [hz2]; omega) (by omega)]
  have e : madeCells (Value.cells (.int .u8 0)) ((n : Int).toNat * i0.size) = ((List.replicate n (0 : UInt8)).map B).toArray := by
    rw [hz1, Int.toNat_natCast, Nat.mul_one]
    apply Array.toList_inj.1
    have := toList_madeCells_one (.int .u8 0) n
    rw [List.map_replicate]
    exact this
  rw [e]
  simp

theorem made_set (f : Nat → UInt8) (n k : Nat) (v : UInt8) (hk : k < n) (hv : v = f k) :
    (((List.range k).map f ++ List.replicate (n - k) 0).map B).set k (B v) = (((List.range (k + 1)).map f ++ List.replicate (n - (k + 1)) 0).map B) := by
  subst hv
  rw [← List.map_set, List.set_append_right _ _ (by simp), List.length_map, List.length_range, Nat.sub_self, show n - k = (n - (k + 1)) + 1 by omega, List.replicate_succ, List.set_cons_zero, List.range_succ, List.map_append]
  simp

theorem byte_div (xs : List Nat) (hs : Sm Bs xs) (p : Nat) : xs.getD (p / 4) 0 / 2 ^ (8 * (p % 4)) % 256 = nv Bs xs / 256 ^ p % 256 := by
  have e0 : 256 ^ p = Bs ^ (p / 4) * 2 ^ (8 * (p % 4)) := by
    rw [show (2 : Nat) ^ (8 * (p % 4)) = 256 ^ (p % 4) by rw [Nat.pow_mul], Bs_256, ← Nat.pow_mul, ← Nat.pow_add]
    congr 1
    omega
  rw [nv_getD Bs_pos hs, e0, ← Nat.div_div_eq_div_mul]
  generalize nv Bs xs / Bs ^ (p / 4) = N
  have hr : p % 4 < 4 := Nat.mod_lt _ (by decide)
  generalize p % 4 = r at hr
  have e : Bs = 2 ^ (8 * r) * 2 ^ (32 - 8 * r) := by rw [← Nat.pow_add, show 8 * r + (32 - 8 * r) = 32 by omega]; rfl
  rw [e, Nat.mod_mul_right_div_self, Nat.mod_mod_of_dvd]
  exact ⟨2 ^ (32 - 8 * r - 8), by rw [show (256 : Nat) = 2 ^ 8 from rfl, ← Nat.pow_add, show 8 + (32 - 8 * r - 8) = 32 - 8 * r by omega]⟩

/-- A number's least bytes. -/
def lst (V : Nat) : Nat := (bl V + 7) / 8

theorem lst_bound (xs : List Nat) (sx : Sm Bs xs) : lst (nv Bs xs) ≤ 4 * xs.length := by
  unfold lst
  have h2 := nv_lt Bs_pos sx
  have h6 : Bs ^ xs.length = 2 ^ (32 * xs.length) := by rw [Nat.pow_mul]; rfl
  rw [h6] at h2
  rcases Nat.lt_or_ge (32 * xs.length) (bl (nv Bs xs)) with h3 | h3
  · exfalso
    have h4 : nv Bs xs ≠ 0 := fun e => by rw [e, bl_zero] at h3; omega
    have h5 := bl_le _ h4
    have h7 : 2 ^ (32 * xs.length) ≤ 2 ^ (bl (nv Bs xs) - 1) := Nat.pow_le_pow_right (by decide) (by omega)
    exact absurd (Nat.lt_of_le_of_lt (Nat.le_trans h7 h5) h2) (Nat.lt_irrefl _)
  · omega

/-- A row of bytes of one's own. -/
def Owb (w : World) (base : Nat) (v : Value) (l : List UInt8) : Prop := w.ownsRow base 5 1 v l.length (l.map B)
theorem Owb.nil (w : World) (base : Nat) : Owb w base (.slice none 0 0) [] := ⟨rfl, .inl ⟨rfl, rfl⟩⟩
theorem Bl.owb {w : World} {base g : Nat} {l : List UInt8} (h : Bl 5 w g (l.map B)) (hg : base ≤ g) (hl : l.length ≤ 10000000000) : Owb w base (.slice (some ⟨g, 0, none⟩) l.length l.length) l := by
  refine ⟨by simp, .inr ⟨g, l.length, (l.map B).toArray, rfl, hg, h, Nat.le_refl _, ?_, by simp, ?_⟩⟩
  · unfold maxLen; omega
  · rw [List.take_of_length_le (by simp)]
theorem Owb.below {w w' : World} {base n : Nat} {v : Value} {xs : List UInt8} (h : Owb w base v xs) (hb : Below n w w') (hn : w.heap.size ≤ n) : Owb w' base v xs := by
  rcases h.2 with h0 | ⟨g, cap, cur, e, hg, hh, r⟩
  · exact ⟨h.1, .inl h0⟩
  · exact ⟨h.1, .inr ⟨g, cap, cur, e, hg, by rw [hb.block g (Nat.lt_of_lt_of_le (Array.getElem?_eq_some_iff.1 hh).1 hn)]; exact hh, r⟩⟩
theorem Owb.drewN {w : World} {base : Nat} {v : Value} {xs : List UInt8} (h : Owb w base v xs) (q : Nat) : Owb (w.drewN q) base v xs := h
theorem Owb.base {w : World} {base base' : Nat} {v : Value} {xs : List UInt8} (h : Owb w base v xs) (hb : base' ≤ base) : Owb w base' v xs := by
  rcases h.2 with h0 | ⟨g, cap, cur, e, hg, r⟩
  · exact ⟨h.1, .inl h0⟩
  · exact ⟨h.1, .inr ⟨g, cap, cur, e, Nat.le_trans hb hg, r⟩⟩
/-- A value that is bytes. -/
def Nb (w : World) (v : Value) (l : List UInt8) : Prop := ∃ (ao : Option Addr) (c : Nat), v = .slice ao l.length c ∧ l.length ≤ c ∧ Rd w ao l
theorem Nb.below {w w' : World} {v : Value} {xs : List UInt8} {n : Nat} (h : Nb w v xs) (hb : Below n w w') (hn : w.heap.size ≤ n) : Nb w' v xs := by
  obtain ⟨ao, c, e, hc, hr⟩ := h
  exact ⟨ao, c, e, hc, hr.below hb hn⟩
theorem Nb.drewN {w : World} {v : Value} {xs : List UInt8} (h : Nb w v xs) (q : Nat) : Nb (w.drewN q) v xs := h
theorem Owb.nb {w : World} {base : Nat} {v : Value} {xs : List UInt8} (h : Owb w base v xs) : Nb w v xs := by
  rcases h.2 with ⟨rfl, h0⟩ | ⟨g, cap, cur, rfl, hg, hh, hn, hc, hsz, ht⟩
  · have : xs = [] := List.eq_nil_of_length_eq_zero h0
    subst this
    exact ⟨none, 0, rfl, Nat.le_refl _, .inl rfl⟩
  · refine ⟨_, cap, rfl, hn, .inr ⟨g, 0, rfl, (World.ownsRow.lt h g rfl).2, fun j hj => ?_⟩⟩
    rw [Nat.zero_add, World.ownsRow.cellAt h j (by omega)]
    rw [List.getElem?_map, List.getElem?_eq_getElem hj, List.getD_eq_getElem?_getD, List.getElem?_eq_getElem hj]; rfl

end Go.Proofs.Ytefpjjonmoofpaa
