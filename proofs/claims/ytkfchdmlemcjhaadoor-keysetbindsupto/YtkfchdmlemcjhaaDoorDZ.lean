import Derived.Test.YtkfchdmlemcjhaaDoorYZ
import Derived.Test.YtkfchdmlemcjhaaDoorWZ
import Derived.Laws.Tables
import Derived.Lib.AppendStr
namespace Go.Proofs.YtkfchdmlemcjhaaDoor
open Go.RowKit Go.Shelf

/-- What the document's functions hand on. -/
def gotC (at_ : Int) (L : Value) (S : List UInt8) (c b : Int) : List Value := [.int .i64 at_, L, .string ⟨S.toArray⟩, .int .i64 c, .int .i64 b]
def gotV (at_ : Int) (L : Value) (S : List UInt8) (c b : Int) : Value := .agg (gotC at_ L S c b).toArray
def nilV : Value := .slice none 0 0

theorem results_got {fn : Func} {p : Tmp} (h : fn.results = #[.cell p 64]) (tmps : Array Value) (w : World) (b : Nat) (at_ : Int) (L : Value) (S : List UInt8) (c d : Int) (hp : tmps.getD p undef = .pointer (some ⟨b, 0, none⟩)) (hb : Bl 64 w b (gotC at_ L S c d)) :
    (results fn tmps).run Tryd.prog w = .ok (gotV at_ L S c d) w := by
  have hr : (loadVar 64 ⟨b, 0, none⟩).run Tryd.prog w = .ok (gotV at_ L S c d) w := by
    refine run_loadVar_mid w b 0 64 (gotC at_ L S c d) _ ?_ Tryd.underlying64 rfl (by kernel_rfl)
    intro j v hv
    obtain ⟨hj, e⟩ := List.getElem?_eq_some_iff.1 hv
    rw [Nat.zero_add, ← e]
    exact hb.cell j hj
  rw [results_cell h, hp]
  unfold asAddr
  simp only [Sem.run_pure, Result.andThen_ok]
  exact hr

theorem set_bl {t : TypeId} {w : World} {b : Nat} {old new : List Value} (h : Bl t w b old) : Bl t (w.setRow b new.toArray) b new := setRow_heap _ _ _ _ _ _ h
theorem setRow_below {w0 w : World} {b : Nat} (new : Array Value) (h : Below w0.heap.size w0 w) (hb : w0.heap.size ≤ b) : Below w0.heap.size w0 (w.setRow b new) := ⟨h.os, h.tape, h.output, by simpa [World.setRow] using h.size, fun k hk => (setRow_other w b k _ (by omega)).trans (h.block k hk)⟩
theorem bl_below {t : TypeId} {w w' : World} {b : Nat} {vs : List Value} (h : Bl t w b vs) (hb : Below w.heap.size w w') : Bl t w' b vs := by
  unfold Bl at *
  rw [hb.block b (by
    have := h
    rcases Nat.lt_or_ge b w.heap.size with hl | hl
    · exact hl
    · rw [Array.getElem?_eq_none hl] at this; cases this)]
  exact h

/-- The byte at a place. -/
def bat (t : List UInt8) (p : Nat) : Int := if p < t.length then ((t.getD p 0).toNat : Int) else -1

set_option maxRecDepth 100000 in
theorem byteAt_any (t : List UInt8) (p : Nat) (w : World) (_hp : p ≤ 4000000000) : Calls Tryd.prog 42 #[.string ⟨t.toArray⟩, .int .i64 p] w fun e w' => e = .returned (.int .i64 (bat t p)) ∧ w' = w := by
  by_cases h : p < t.length
  · have HF : Hid (bat t p = ((t.getD p 0).toNat : Int)) := by show _ = _; unfold bat; rw [if_pos h]
    have q0 : decide ((p : Int) ≥ (t.length : Int)) = false := decide_eq_false (by omega)
    obtain ⟨c, hc⟩ : ∃ c, t.getD p 0 = c := ⟨_, rfl⟩
    have gx : (⟨t.toArray⟩ : ByteArray)[p]'(by show p < t.toArray.size; simpa using h) = c := by rw [← hc]; simp [List.getD_eq_getElem?_getD, h]; rfl
    rw [hc] at HF
    have hw : wrap64 (c.toNat : Int) = (c.toNat : Int) := wrap_small (by omega) (by have := c.toNat_lt; omega)
    clear hc
    go_enter Tryd.func42, Tryd.ntmps42
    go_wp2
    go_ret
    rw [HF.out]
    refine ⟨?_, rfl⟩
    show Ending.returned (.int .i64 (wrap64 (c.toNat : Int))) = _
    rw [hw]
  · have HF : Hid (bat t p = -1) := by show _ = _; unfold bat; rw [if_neg h]
    have q0 : decide ((p : Int) ≥ (t.length : Int)) = true := decide_eq_true (by omega)
    go_enter Tryd.func42, Tryd.ntmps42
    go_wp2
    go_ret
    rw [HF.out]
    exact ⟨rfl, rfl⟩

set_option maxRecDepth 100000 in
theorem fault_any (c b : Int) (w : World) : Calls Tryd.prog 41 #[.int .i64 c, .int .i64 b] w fun e w' => e = .returned (gotV 0 nilV [] c b) ∧ Below w.heap.size w w' := by
  have HB : Hid (Below w.heap.size w (w.alloc (.cells (gotC 0 nilV [] c b).toArray 64))) := alloc_below _ _
  have HBl : Hid (Bl 64 (w.alloc (.cells (gotC 0 nilV [] c b).toArray 64)) w.heap.size (gotC 0 nilV [] c b)) := alloc_bl _ _ _
  go_enter Tryd.func41, Tryd.ntmps41
  go_wp2
  (try simp only [Exit.inBlock, Exit.then])
  exact bodyPost_ret (v := gotV 0 nilV [] c b) (results_got rfl _ _ w.heap.size 0 nilV [] c b rfl HBl.out) rfl ⟨rfl, HB.out⟩

/-- What a hexadecimal digit says. -/
def hxF (c : Int) : Int := if 48 ≤ c ∧ c ≤ 57 then c - 48 else if 97 ≤ c ∧ c ≤ 102 then c - 97 + 10 else if 65 ≤ c ∧ c ≤ 70 then c - 65 + 10 else -1
/-- Of a sequence that begins with a byte: how many follow, and where the first of these may lie. -/
def bdF (c : Nat) : Int × Nat × Nat := if c < 194 ∨ 244 < c then (-1, 0, 0) else if c < 224 then (1, 128, 191) else if c = 224 then (2, 160, 191) else if c = 237 then (2, 128, 159) else if c < 240 then (2, 128, 191) else if c = 240 then (3, 144, 191) else if c = 244 then (3, 128, 143) else (3, 128, 191)
set_option maxRecDepth 100000 in
set_option maxHeartbeats 2000000 in
theorem bounds_any (c : Nat) (w : World) (hc : c ≤ 255) : Calls Tryd.prog 40 #[.int .i64 c] w fun e w' => e = .returned (.tuple #[.int .i64 (bdF c).1, .int .i64 ((bdF c).2.1 : Int), .int .i64 ((bdF c).2.2 : Int)]) ∧ w' = w := by
  have a1 : ∀ n : Nat, decide ((c : Int) < (n : Int)) = decide (c < n) := fun n => by simp
  have a2 : ∀ n : Nat, ((c : Int) == (n : Int)) = (c == n) := fun n => by rw [Bool.eq_iff_iff]; simp; omega
  have go : ∀ (n : Int) (lo hi : Nat), bdF c = (n, lo, hi) → (Calls Tryd.prog 40 #[.int .i64 c] w fun e w' => e = .returned (.tuple #[.int .i64 n, .int .i64 (lo : Int), .int .i64 (hi : Int)]) ∧ w' = w) → Calls Tryd.prog 40 #[.int .i64 c] w fun e w' => e = .returned (.tuple #[.int .i64 (bdF c).1, .int .i64 ((bdF c).2.1 : Int), .int .i64 ((bdF c).2.2 : Int)]) ∧ w' = w := fun n lo hi e h => by rw [e]; exact h
  clear a1 a2
  rcases (show c < 194 ∨ 244 < c ∨ (194 ≤ c ∧ c < 224) ∨ c = 224 ∨ c = 237 ∨ ((225 ≤ c ∧ c < 237) ∨ (238 ≤ c ∧ c < 240)) ∨ c = 240 ∨ c = 244 ∨ (241 ≤ c ∧ c < 244) by omega) with h | h | h | h | h | h | h | h | h
  · refine go (-1) 0 0 (by unfold bdF; rw [if_pos (by omega)]) ?_
    have p1 : decide ((c : Int) < 194) = true := decide_eq_true (by omega)
    clear go
    go_enter Tryd.func40, Tryd.ntmps40
    go_wp2
    go_ret3
    exact ⟨rfl, rfl⟩
  · refine go (-1) 0 0 (by unfold bdF; rw [if_pos (by omega)]) ?_
    have p1 : decide ((c : Int) < 194) = false := decide_eq_false (by omega)
    have p2 : decide ((c : Int) > 244) = true := decide_eq_true (by omega)
    clear go
    go_enter Tryd.func40, Tryd.ntmps40
    go_wp2
    go_ret3
    exact ⟨rfl, rfl⟩
  · refine go 1 128 191 (by unfold bdF; rw [if_neg (by omega), if_pos (by omega)]) ?_
    have p1 : decide ((c : Int) < 194) = false := decide_eq_false (by omega)
    have p2 : decide ((c : Int) > 244) = false := decide_eq_false (by omega)
    have p3 : decide ((c : Int) < 224) = true := decide_eq_true (by omega)
    clear go
    go_enter Tryd.func40, Tryd.ntmps40
    go_wp2
    go_ret3
    exact ⟨rfl, rfl⟩
  · subst h
    refine go 2 160 191 rfl ?_
    clear go
    go_enter Tryd.func40, Tryd.ntmps40
    go_wp2
    go_ret3
    exact ⟨rfl, rfl⟩
  · subst h
    refine go 2 128 159 rfl ?_
    clear go
    go_enter Tryd.func40, Tryd.ntmps40
    go_wp2
    go_ret3
    exact ⟨rfl, rfl⟩
  · refine go 2 128 191 (by unfold bdF; rw [if_neg (by omega), if_neg (by omega), if_neg (by omega), if_neg (by omega), if_pos (by omega)]) ?_
    have p1 : decide ((c : Int) < 194) = false := decide_eq_false (by omega)
    have p2 : decide ((c : Int) > 244) = false := decide_eq_false (by omega)
    have p3 : decide ((c : Int) < 224) = false := decide_eq_false (by omega)
    have p4 : ((c : Int) == 224) = false := by simp; omega
    have p5 : ((c : Int) == 237) = false := by simp; omega
    have p6 : decide ((c : Int) < 240) = true := decide_eq_true (by omega)
    clear go
    go_enter Tryd.func40, Tryd.ntmps40
    go_wp2
    go_ret3
    exact ⟨rfl, rfl⟩
  · subst h
    refine go 3 144 191 rfl ?_
    clear go
    go_enter Tryd.func40, Tryd.ntmps40
    go_wp2
    go_ret3
    exact ⟨rfl, rfl⟩
  · subst h
    refine go 3 128 143 rfl ?_
    clear go
    go_enter Tryd.func40, Tryd.ntmps40
    go_wp2
    go_ret3
    exact ⟨rfl, rfl⟩
  · refine go 3 128 191 (by unfold bdF; rw [if_neg (by omega), if_neg (by omega), if_neg (by omega), if_neg (by omega), if_neg (by omega), if_neg (by omega), if_neg (by omega)]) ?_
    have p1 : decide ((c : Int) < 194) = false := decide_eq_false (by omega)
    have p2 : decide ((c : Int) > 244) = false := decide_eq_false (by omega)
    have p3 : decide ((c : Int) < 224) = false := decide_eq_false (by omega)
    have p4 : ((c : Int) == 224) = false := by simp; omega
    have p5 : ((c : Int) == 237) = false := by simp; omega
    have p6 : decide ((c : Int) < 240) = false := decide_eq_false (by omega)
    have p7 : ((c : Int) == 240) = false := by simp; omega
    have p8 : ((c : Int) == 244) = false := by simp; omega
    clear go
    go_enter Tryd.func40, Tryd.ntmps40
    go_wp2
    go_ret3
    exact ⟨rfl, rfl⟩

end Go.Proofs.YtkfchdmlemcjhaaDoor

namespace Go.Proofs.YtkfchdmlemcjhaaDoor
open Go.RowKit Go.Shelf

/-- A char beyond the plain ones, by its bytes as numbers. -/
theorem chr_high {t : List UInt8} {p : Nat} (h128 : 128 ≤ (t.getD p 0).toNat) : chrF t p =
    (if fullN (t.length - p) (t.getD p 0).toNat (t.getD (p + 1) 0).toNat (t.getD (p + 2) 0).toNat = false then .bad 31 t.length
     else if (Lib.decodeN (t.length - p) (t.getD p 0).toNat (t.getD (p + 1) 0).toNat (t.getD (p + 2) 0).toNat (t.getD (p + 3) 0).toNat).1 = 65533 ∧ (Lib.decodeN (t.length - p) (t.getD p 0).toNat (t.getD (p + 1) 0).toNat (t.getD (p + 2) 0).toNat (t.getD (p + 3) 0).toNat).2 = 1 then .bad 32 p
     else .ok ((Lib.decodeN (t.length - p) (t.getD p 0).toNat (t.getD (p + 1) 0).toNat (t.getD (p + 2) 0).toNat (t.getD (p + 3) 0).toNat).1 : Int) (p + (Lib.decodeN (t.length - p) (t.getD p 0).toNat (t.getD (p + 1) 0).toNat (t.getD (p + 2) 0).toNat (t.getD (p + 3) 0).toNat).2)) := by
  unfold chrF fullR
  simp only
  rw [Lib.decodeL_N, List.length_drop, Lib.getD_dropU, Lib.getD_dropU, Lib.getD_dropU, Lib.getD_dropU, Nat.add_zero]
  rw [if_neg (c := t.getD p 0 = 92) (fun e => by rw [e] at h128; revert h128; decide), if_neg (c := t.getD p 0 < 32) (fun e => by have e2 : (t.getD p 0).toNat < 32 := e; omega)]

theorem bd_cases {b : Nat} (h : (bdF b).1 ≠ -1) :
    (194 ≤ b ∧ b < 224 ∧ bdF b = (1, 128, 191)) ∨ (b = 224 ∧ bdF b = (2, 160, 191)) ∨ (b = 237 ∧ bdF b = (2, 128, 159)) ∨ (((225 ≤ b ∧ b < 237) ∨ (238 ≤ b ∧ b < 240)) ∧ bdF b = (2, 128, 191)) ∨ (b = 240 ∧ bdF b = (3, 144, 191)) ∨ (b = 244 ∧ bdF b = (3, 128, 143)) ∨ (241 ≤ b ∧ b < 244 ∧ bdF b = (3, 128, 191)) := by
  rcases (show (b < 194 ∨ 244 < b) ∨ (194 ≤ b ∧ b < 224) ∨ b = 224 ∨ b = 237 ∨ ((225 ≤ b ∧ b < 237) ∨ (238 ≤ b ∧ b < 240)) ∨ b = 240 ∨ b = 244 ∨ (241 ≤ b ∧ b < 244) by omega) with c | c | c | c | c | c | c | c
  · exact absurd (by unfold bdF; rw [if_pos c]) h
  · exact .inl ⟨c.1, c.2, by unfold bdF; rw [if_neg (by omega), if_pos (by omega)]⟩
  · exact .inr (.inl ⟨c, by rw [c]; rfl⟩)
  · exact .inr (.inr (.inl ⟨c, by rw [c]; rfl⟩))
  · exact .inr (.inr (.inr (.inl ⟨c, by unfold bdF; rw [if_neg (by omega), if_neg (by omega), if_neg (by omega), if_neg (by omega), if_pos (by omega)]⟩)))
  · exact .inr (.inr (.inr (.inr (.inl ⟨c, by rw [c]; rfl⟩))))
  · exact .inr (.inr (.inr (.inr (.inr (.inl ⟨c, by rw [c]; rfl⟩)))))
  · exact .inr (.inr (.inr (.inr (.inr (.inr ⟨c.1, c.2, by unfold bdF; rw [if_neg (by omega), if_neg (by omega), if_neg (by omega), if_neg (by omega), if_neg (by omega), if_neg (by omega), if_neg (by omega)]⟩)))))
theorem bd_first {b : Nat} (h : (bdF b).1 ≠ -1) : ((Lib.firstT b % 8 : Nat) : Int) = (bdF b).1 + 1 ∧ Lib.accLo (Lib.firstT b / 16) = (bdF b).2.1 ∧ Lib.accHi (Lib.firstT b / 16) = (bdF b).2.2 := by
  rcases bd_cases h with ⟨c1, c2, e⟩ | ⟨c, e⟩ | ⟨c, e⟩ | ⟨c, e⟩ | ⟨c, e⟩ | ⟨c, e⟩ | ⟨c1, c2, e⟩
  · have f : Lib.firstT b = 2 := by unfold Lib.firstT; rw [if_neg (by omega), if_neg (by omega), if_pos (by omega)]
    rw [e, f]; exact ⟨rfl, rfl, rfl⟩
  · rw [e, c]; exact ⟨rfl, rfl, rfl⟩
  · rw [e, c]; exact ⟨rfl, rfl, rfl⟩
  · have f : Lib.firstT b = 3 := by
      unfold Lib.firstT
      rcases c with c | c
      · rw [if_neg (by omega), if_neg (by omega), if_neg (by omega), if_neg (by omega), if_pos (by omega)]
      · rw [if_neg (by omega), if_neg (by omega), if_neg (by omega), if_neg (by omega), if_neg (by omega), if_neg (by omega), if_pos (by omega)]
    rw [e, f]; exact ⟨rfl, rfl, rfl⟩
  · rw [e, c]; exact ⟨rfl, rfl, rfl⟩
  · rw [e, c]; exact ⟨rfl, rfl, rfl⟩
  · have f : Lib.firstT b = 4 := by
      unfold Lib.firstT
      rw [if_neg (by omega), if_neg (by omega), if_neg (by omega), if_neg (by omega), if_neg (by omega), if_neg (by omega), if_neg (by omega), if_neg (by omega), if_pos (by omega)]
    rw [e, f]; exact ⟨rfl, rfl, rfl⟩
theorem bd_none {b : Nat} (h0 : 128 ≤ b) (h : (bdF b).1 = -1) : Lib.firstT b % 8 = 1 ∧ (b < 194 ∨ 244 < b) := by
  have hb : b < 194 ∨ 244 < b := by
    unfold bdF at h
    split at h
    · assumption
    · repeat' split at h
      all_goals simp at h
  refine ⟨?_, hb⟩
  unfold Lib.firstT
  repeat' split
  all_goals omega

theorem seq_none {t : List UInt8} {p : Nat} (hp : p < t.length) (h128 : 128 ≤ (t.getD p 0).toNat) (h : (bdF (t.getD p 0).toNat).1 = -1) : chrF t p = .bad 32 p := by
  obtain ⟨h1, h2⟩ := bd_none h128 h
  have k0 := (t.getD p 0).toNat_lt
  have k1 := (t.getD (p + 1) 0).toNat_lt
  have k2 := (t.getD (p + 2) 0).toNat_lt
  have k3 := (t.getD (p + 3) 0).toNat_lt
  rw [chr_high h128]
  generalize (t.getD p 0).toNat = b0 at *
  generalize (t.getD (p + 1) 0).toNat = b1 at *
  generalize (t.getD (p + 2) 0).toNat = b2 at *
  generalize (t.getD (p + 3) 0).toNat = b3 at *
  have hf : fullN (t.length - p) b0 b1 b2 = true := by
    unfold fullN
    rw [if_neg (by omega), if_pos (by omega)]
  have hd : Lib.decodeN (t.length - p) b0 b1 b2 b3 = (65533, 1) := by
    unfold Lib.decodeN
    repeat' split
    all_goals first | rfl | omega
  rw [hf, if_neg (by decide), hd, if_pos ⟨rfl, rfl⟩]

/-- Where the i-th byte behind the first may lie. -/
def rgL (b : Nat) (i : Nat) : Nat := if i = 1 then (bdF b).2.1 else 128
def rgH (b : Nat) (i : Nat) : Nat := if i = 1 then (bdF b).2.2 else 191

set_option maxHeartbeats 2000000 in
theorem seq_end {t : List UInt8} {p i : Nat} (hp : p < t.length) (h128 : 128 ≤ (t.getD p 0).toNat) (h : (bdF (t.getD p 0).toNat).1 ≠ -1) (hi1 : 1 ≤ i) (hi : (i : Int) ≤ (bdF (t.getD p 0).toNat).1) (hl : t.length ≤ p + i) (hr : ∀ j, 1 ≤ j → j < i → rgL (t.getD p 0).toNat j ≤ (t.getD (p + j) 0).toNat ∧ (t.getD (p + j) 0).toNat ≤ rgH (t.getD p 0).toNat j) : chrF t p = .bad 31 t.length := by
  obtain ⟨f1, f2, f3⟩ := bd_first h
  have hc := bd_cases h
  rw [chr_high h128]
  have hf : fullN (t.length - p) (t.getD p 0).toNat (t.getD (p + 1) 0).toNat (t.getD (p + 2) 0).toNat = false := by
    unfold fullN
    rw [f2, f3, if_neg (by omega), if_neg (by omega)]
    have hn : (bdF (t.getD p 0).toNat).1 ≤ 3 := by rcases hc with ⟨_, _, e⟩ | ⟨_, e⟩ | ⟨_, e⟩ | ⟨_, e⟩ | ⟨_, e⟩ | ⟨_, e⟩ | ⟨_, _, e⟩ <;> rw [e] <;> simp
    rw [if_neg (fun hx => ?_)]
    · refine decide_eq_false (fun hx => ?_)
      have := hr 2 (by omega) (by omega)
      unfold rgL rgH at this
      rw [if_neg (by omega), if_neg (by omega)] at this
      omega
    · have := hr 1 (by omega) (by omega)
      unfold rgL rgH at this
      rw [if_pos rfl, if_pos rfl] at this
      omega
  rw [hf, if_pos rfl]

set_option maxHeartbeats 4000000 in
theorem seq_bad {t : List UInt8} {p i : Nat} (hp : p < t.length) (h128 : 128 ≤ (t.getD p 0).toNat) (h : (bdF (t.getD p 0).toNat).1 ≠ -1) (hi1 : 1 ≤ i) (hi : (i : Int) ≤ (bdF (t.getD p 0).toNat).1) (hl : p + i < t.length) (hr : ∀ j, 1 ≤ j → j < i → rgL (t.getD p 0).toNat j ≤ (t.getD (p + j) 0).toNat ∧ (t.getD (p + j) 0).toNat ≤ rgH (t.getD p 0).toNat j)
    (hb : ¬ (rgL (t.getD p 0).toNat i ≤ (t.getD (p + i) 0).toNat ∧ (t.getD (p + i) 0).toNat ≤ rgH (t.getD p 0).toNat i)) : chrF t p = .bad 32 p := by
  obtain ⟨f1, f2, f3⟩ := bd_first h
  have hc := bd_cases h
  have k0 := (t.getD p 0).toNat_lt
  have k1 := (t.getD (p + 1) 0).toNat_lt
  have k2 := (t.getD (p + 2) 0).toNat_lt
  have k3 := (t.getD (p + 3) 0).toNat_lt
  have hn : (bdF (t.getD p 0).toNat).1 ≤ 3 := by rcases hc with ⟨_, _, e⟩ | ⟨_, e⟩ | ⟨_, e⟩ | ⟨_, e⟩ | ⟨_, e⟩ | ⟨_, e⟩ | ⟨_, _, e⟩ <;> rw [e] <;> simp
  have hi3 : i = 1 ∨ i = 2 ∨ i = 3 := by omega
  have hb2 : i = 2 ∨ i = 3 → ¬ (128 ≤ (t.getD (p + i) 0).toNat ∧ (t.getD (p + i) 0).toNat ≤ 191) := fun hi2 => by
    unfold rgL rgH at hb
    rwa [if_neg (by omega), if_neg (by omega)] at hb
  have hb1 : i = 1 → ¬ ((bdF (t.getD p 0).toNat).2.1 ≤ (t.getD (p + 1) 0).toNat ∧ (t.getD (p + 1) 0).toNat ≤ (bdF (t.getD p 0).toNat).2.2) := fun hi2 => by
    subst hi2
    unfold rgL rgH at hb
    rwa [if_pos rfl, if_pos rfl] at hb
  rw [chr_high h128]
  have hf : fullN (t.length - p) (t.getD p 0).toNat (t.getD (p + 1) 0).toNat (t.getD (p + 2) 0).toNat = true := by
    unfold fullN
    rw [f2, f3, if_neg (by omega)]
    rcases hi3 with rfl | rfl | rfl
    · split
      · rfl
      · rw [if_pos (by have := hb1 rfl; omega)]
    · split
      · rfl
      · split
        · rfl
        · exact decide_eq_true (by have := hb2 (.inl rfl); omega)
    · rw [if_pos (by omega)]
  have hd : Lib.decodeN (t.length - p) (t.getD p 0).toNat (t.getD (p + 1) 0).toNat (t.getD (p + 2) 0).toNat (t.getD (p + 3) 0).toNat = (65533, 1) := by
    rcases hi3 with rfl | rfl | rfl
    · have hb := hb1 rfl
      clear hb1 hb2 hf hr f1 f2 f3
      generalize (t.getD p 0).toNat = b0 at *
      generalize (t.getD (p + 1) 0).toNat = b1 at *
      generalize (t.getD (p + 2) 0).toNat = b2 at *
      generalize (t.getD (p + 3) 0).toNat = b3 at *
      rcases hc with ⟨c1, c2, e⟩ | ⟨c1, e⟩ | ⟨c1, e⟩ | ⟨c1, e⟩ | ⟨c1, e⟩ | ⟨c1, e⟩ | ⟨c1, c2, e⟩
      all_goals
        rw [e] at hb
        simp only at hb
        unfold Lib.decodeN
        repeat' split
        all_goals first | rfl | omega
    · have hb := hb2 (.inl rfl)
      have hn2 : 2 ≤ (bdF (t.getD p 0).toNat).1 := by omega
      clear hb1 hb2 hf hr f1 f2 f3
      generalize (t.getD p 0).toNat = b0 at *
      generalize (t.getD (p + 1) 0).toNat = b1 at *
      generalize (t.getD (p + 2) 0).toNat = b2 at *
      generalize (t.getD (p + 3) 0).toNat = b3 at *
      have hb0 : 224 ≤ b0 := by
        rcases hc with ⟨c1, c2, e⟩ | ⟨c1, e⟩ | ⟨c1, e⟩ | ⟨c1, e⟩ | ⟨c1, e⟩ | ⟨c1, e⟩ | ⟨c1, c2, e⟩
        · rw [e] at hn2; simp at hn2
        all_goals omega
      unfold Lib.decodeN
      repeat' split
      all_goals first | rfl | omega
    · have hb := hb2 (.inr rfl)
      have hn2 : 3 ≤ (bdF (t.getD p 0).toNat).1 := by omega
      clear hb1 hb2 hf hr f1 f2 f3
      generalize (t.getD p 0).toNat = b0 at *
      generalize (t.getD (p + 1) 0).toNat = b1 at *
      generalize (t.getD (p + 2) 0).toNat = b2 at *
      generalize (t.getD (p + 3) 0).toNat = b3 at *
      have hb0 : 240 ≤ b0 := by
        rcases hc with ⟨c1, c2, e⟩ | ⟨c1, e⟩ | ⟨c1, e⟩ | ⟨c1, e⟩ | ⟨c1, e⟩ | ⟨c1, e⟩ | ⟨c1, c2, e⟩
        · rw [e] at hn2; simp at hn2
        · rw [e] at hn2; simp at hn2
        · rw [e] at hn2; simp at hn2
        · rw [e] at hn2; simp at hn2
        all_goals omega
      unfold Lib.decodeN
      repeat' split
      all_goals first | rfl | omega
  rw [hf, if_neg (by decide), hd, if_pos ⟨rfl, rfl⟩]

set_option maxHeartbeats 4000000 in
theorem seq_ok {t : List UInt8} {p n : Nat} (hp : p < t.length) (h128 : 128 ≤ (t.getD p 0).toNat) (hn : (bdF (t.getD p 0).toNat).1 = (n : Int)) (hl : p + n < t.length) (hr : ∀ j, 1 ≤ j → j ≤ n → rgL (t.getD p 0).toNat j ≤ (t.getD (p + j) 0).toNat ∧ (t.getD (p + j) 0).toNat ≤ rgH (t.getD p 0).toNat j) :
    ∃ r, chrF t p = .ok r (p + n + 1) ∧ Lib.encodeRune r = sgl t p (p + n + 1) := by
  have h : (bdF (t.getD p 0).toNat).1 ≠ -1 := by omega
  obtain ⟨f1, f2, f3⟩ := bd_first h
  have hc := bd_cases h
  have k0 := (t.getD p 0).toNat_lt
  have k1 := (t.getD (p + 1) 0).toNat_lt
  have k2 := (t.getD (p + 2) 0).toNat_lt
  have k3 := (t.getD (p + 3) 0).toNat_lt
  have hN := Lib.decodeL_N (t.drop p)
  rw [List.length_drop, Lib.getD_dropU, Lib.getD_dropU, Lib.getD_dropU, Lib.getD_dropU, Nat.add_zero] at hN
  have hf : fullN (t.length - p) (t.getD p 0).toNat (t.getD (p + 1) 0).toNat (t.getD (p + 2) 0).toNat = true := by
    unfold fullN
    rw [if_neg (by omega), if_pos (by omega)]
  have hr1 : 1 ≤ n → (bdF (t.getD p 0).toNat).2.1 ≤ (t.getD (p + 1) 0).toNat ∧ (t.getD (p + 1) 0).toNat ≤ (bdF (t.getD p 0).toNat).2.2 := fun h1 => by
    have := hr 1 (by omega) h1
    unfold rgL rgH at this
    rwa [if_pos rfl, if_pos rfl] at this
  have hr2 : 2 ≤ n → 128 ≤ (t.getD (p + 2) 0).toNat ∧ (t.getD (p + 2) 0).toNat ≤ 191 := fun h1 => by
    have := hr 2 (by omega) h1
    unfold rgL rgH at this
    rwa [if_neg (by omega), if_neg (by omega)] at this
  have hr3 : 3 ≤ n → 128 ≤ (t.getD (p + 3) 0).toNat ∧ (t.getD (p + 3) 0).toNat ≤ 191 := fun h1 => by
    have := hr 3 (by omega) h1
    unfold rgL rgH at this
    rwa [if_neg (by omega), if_neg (by omega)] at this
  have hd : (Lib.decodeL (t.drop p)).2 = n + 1 := by
    rw [hN]
    clear hN hf hr f1 f2 f3
    generalize (t.getD p 0).toNat = b0 at *
    generalize (t.getD (p + 1) 0).toNat = b1 at *
    generalize (t.getD (p + 2) 0).toNat = b2 at *
    generalize (t.getD (p + 3) 0).toNat = b3 at *
    rcases hc with ⟨c1, c2, e⟩ | ⟨c1, e⟩ | ⟨c1, e⟩ | ⟨c1, e⟩ | ⟨c1, e⟩ | ⟨c1, e⟩ | ⟨c1, c2, e⟩
    · rw [e] at hn hr1
      simp only at hn hr1
      obtain rfl : n = 1 := by omega
      have g1 := hr1 (by omega)
      unfold Lib.decodeN
      rw [if_neg (by omega), if_pos (by omega), if_pos (by omega)]
    · rw [e] at hn hr1
      simp only at hn hr1
      obtain rfl : n = 2 := by omega
      have g1 := hr1 (by omega)
      have g2 := hr2 (by omega)
      unfold Lib.decodeN
      rw [if_neg (by omega), if_neg (by omega), if_pos (by omega), if_pos (by omega)]
    · rw [e] at hn hr1
      simp only at hn hr1
      obtain rfl : n = 2 := by omega
      have g1 := hr1 (by omega)
      have g2 := hr2 (by omega)
      unfold Lib.decodeN
      rw [if_neg (by omega), if_neg (by omega), if_pos (by omega), if_pos (by omega)]
    · rw [e] at hn hr1
      simp only at hn hr1
      obtain rfl : n = 2 := by omega
      have g1 := hr1 (by omega)
      have g2 := hr2 (by omega)
      unfold Lib.decodeN
      rw [if_neg (by omega), if_neg (by omega), if_pos (by omega), if_pos (by omega)]
    · rw [e] at hn hr1
      simp only at hn hr1
      obtain rfl : n = 3 := by omega
      have g1 := hr1 (by omega)
      have g2 := hr2 (by omega)
      have g3 := hr3 (by omega)
      unfold Lib.decodeN
      rw [if_neg (by omega), if_neg (by omega), if_neg (by omega), if_pos (by omega), if_pos (by omega)]
    · rw [e] at hn hr1
      simp only at hn hr1
      obtain rfl : n = 3 := by omega
      have g1 := hr1 (by omega)
      have g2 := hr2 (by omega)
      have g3 := hr3 (by omega)
      unfold Lib.decodeN
      rw [if_neg (by omega), if_neg (by omega), if_neg (by omega), if_pos (by omega), if_pos (by omega)]
    · rw [e] at hn hr1
      simp only at hn hr1
      obtain rfl : n = 3 := by omega
      have g1 := hr1 (by omega)
      have g2 := hr2 (by omega)
      have g3 := hr3 (by omega)
      unfold Lib.decodeN
      rw [if_neg (by omega), if_neg (by omega), if_neg (by omega), if_pos (by omega), if_pos (by omega)]
  have hn1 : 1 ≤ n := by rcases hc with ⟨_, _, e⟩ | ⟨_, e⟩ | ⟨_, e⟩ | ⟨_, e⟩ | ⟨_, e⟩ | ⟨_, e⟩ | ⟨_, _, e⟩ <;> rw [e] at hn <;> simp at hn <;> omega
  have hne : t.drop p ≠ [] := fun e => by have := congrArg List.length e; simp at this; omega
  have hv : ¬ ((Lib.decodeL (t.drop p)).1 = 65533 ∧ (Lib.decodeL (t.drop p)).2 = 1) := by rw [hd]; omega
  refine ⟨((Lib.decodeL (t.drop p)).1 : Int), ?_, ?_⟩
  · rw [chr_high h128, hf, if_neg (by decide), ← hN, if_neg hv, hd]
    rfl
  · rw [Lib.encode_decode _ hne hv, hd]
    unfold sgl
    rw [show p + n + 1 - p = n + 1 by omega]

end Go.Proofs.YtkfchdmlemcjhaaDoor

namespace Go.Proofs.YtkfchdmlemcjhaaDoor
open Go.RowKit Go.Shelf

/-- A char, as the bytes that it says. -/
def chF (t : List UInt8) (p : Nat) : Lx (List UInt8) := match chrF t p with
  | .ok r q => .ok (Lib.encodeRune r) q
  | .bad c b => .bad c b
/-- What is told of a text. -/
def GotS (x : Lx (List UInt8)) (v : Value) : Prop := match x with
  | .ok S q => v = gotV (q : Int) nilV S 0 0
  | .bad c b => ∃ a S, v = gotV a nilV S (c : Int) (b : Int)

set_option maxRecDepth 100000 in
set_option maxHeartbeats 4000000 in
theorem sequence_any (t : List UInt8) (p : Nat) (w : World) (hp : p < t.length) (h128 : 128 ≤ (t.getD p 0).toNat) (ht : t.length ≤ 1000000000) :
    Calls Tryd.prog 34 #[.string ⟨t.toArray⟩, .int .i64 p] w fun e w' => (∃ v, e = .returned v ∧ GotS (chF t p) v) ∧ Below w.heap.size w w' := by
  obtain ⟨c, hc⟩ : ∃ c, t.getD p 0 = c := ⟨_, rfl⟩
  have gx : (⟨t.toArray⟩ : ByteArray)[p]'(by show p < t.toArray.size; simpa using hp) = c := by rw [← hc]; simp [List.getD_eq_getElem?_getD, hp]; rfl
  have hw : wrap64 (c.toNat : Int) = (c.toNat : Int) := wrap_small (by omega) (by have := c.toNat_lt; omega)
  have H1 : Hid (∀ wq, Calls Tryd.prog 40 #[.int .i64 (wrap64 (c.toNat : Int))] wq fun e w' => e = .returned (.tuple #[.int .i64 (bdF c.toNat).1, .int .i64 ((bdF c.toNat).2.1 : Int), .int .i64 ((bdF c.toNat).2.2 : Int)]) ∧ w' = wq) := fun wq => by rw [hw]; exact bounds_any c.toNat wq (by have := c.toNat_lt; omega)
  have HN : Hid ((bdF c.toNat).1 = -1 → chF t p = .bad 32 p) := fun h => by unfold chF; rw [seq_none hp h128 (by rw [hc]; exact h)]
  have HE : Hid (∀ i : Nat, (bdF c.toNat).1 ≠ -1 → 1 ≤ i → (i : Int) ≤ (bdF c.toNat).1 → t.length ≤ p + i → (∀ j, 1 ≤ j → j < i → rgL c.toNat j ≤ (t.getD (p + j) 0).toNat ∧ (t.getD (p + j) 0).toNat ≤ rgH c.toNat j) → chF t p = .bad 31 t.length) := fun i h1 h2 h3 h4 h5 => by unfold chF; rw [seq_end (i := i) hp h128 (by rw [hc]; exact h1) h2 (by rw [hc]; exact h3) h4 (by rw [hc]; exact h5)]
  have HBd : Hid (∀ i : Nat, (bdF c.toNat).1 ≠ -1 → 1 ≤ i → (i : Int) ≤ (bdF c.toNat).1 → p + i < t.length → (∀ j, 1 ≤ j → j < i → rgL c.toNat j ≤ (t.getD (p + j) 0).toNat ∧ (t.getD (p + j) 0).toNat ≤ rgH c.toNat j) → ¬ (rgL c.toNat i ≤ (t.getD (p + i) 0).toNat ∧ (t.getD (p + i) 0).toNat ≤ rgH c.toNat i) → chF t p = .bad 32 p) := fun i h1 h2 h3 h4 h5 h6 => by unfold chF; rw [seq_bad (i := i) hp h128 (by rw [hc]; exact h1) h2 (by rw [hc]; exact h3) h4 (by rw [hc]; exact h5) (by rw [hc]; exact h6)]
  have HO : Hid (∀ n : Nat, (bdF c.toNat).1 = (n : Int) → p + n < t.length → (∀ j, 1 ≤ j → j ≤ n → rgL c.toNat j ≤ (t.getD (p + j) 0).toNat ∧ (t.getD (p + j) 0).toNat ≤ rgH c.toNat j) → chF t p = .ok (sgl t p (p + n + 1)) (p + n + 1)) := fun n h1 h2 h3 => by
    obtain ⟨r, e1, e2⟩ := seq_ok (n := n) hp h128 (by rw [hc]; exact h1) h2 (by rw [hc]; exact h3)
    unfold chF
    rw [e1]
    simp only
    rw [e2]
  obtain ⟨X, hX⟩ : ∃ X, chF t p = X := ⟨_, rfl⟩
  rw [hX] at HN HE HBd HO ⊢
  have HLo : Hid (rgL c.toNat 1 = (bdF c.toNat).2.1 ∧ rgH c.toNat 1 = (bdF c.toNat).2.2) := ⟨rfl, rfl⟩
  have HLn : Hid (∀ i, 1 ≤ i → rgL c.toNat (i + 1) = 128 ∧ rgH c.toNat (i + 1) = 191) := fun i hi => by unfold rgL rgH; rw [if_neg (by omega), if_neg (by omega)]; exact ⟨rfl, rfl⟩
  have HBox : Hid (Bl 64 (w.alloc (.cells (gotC 0 nilV [] 0 0).toArray 64)) w.heap.size (gotC 0 nilV [] 0 0)) := alloc_bl _ _ _
  have HB : Hid (Below w.heap.size w (w.alloc (.cells (gotC 0 nilV [] 0 0).toArray 64))) := alloc_below _ _
  have hnb : (bdF c.toNat).1 = -1 ∨ ∃ n : Nat, (bdF c.toNat).1 = (n : Int) ∧ n ≤ 3 := by
    by_cases h : (bdF c.toNat).1 = -1
    · exact .inl h
    · right
      rcases bd_cases h with ⟨_, _, e⟩ | ⟨_, e⟩ | ⟨_, e⟩ | ⟨_, e⟩ | ⟨_, e⟩ | ⟨_, e⟩ | ⟨_, _, e⟩ <;> rw [e]
      · exact ⟨1, rfl, by omega⟩
      · exact ⟨2, rfl, by omega⟩
      · exact ⟨2, rfl, by omega⟩
      · exact ⟨2, rfl, by omega⟩
      · exact ⟨3, rfl, by omega⟩
      · exact ⟨3, rfl, by omega⟩
      · exact ⟨3, rfl, by omega⟩
  generalize hrl : rgL c.toNat = RL at *
  generalize hrh : rgH c.toNat = RH at *
  generalize hbd : bdF c.toNat = bd at *
  obtain ⟨n, lo, hi⟩ := bd
  simp only at *
  clear hc hX hrl hrh hbd h128 hw
  go_enter Tryd.func34, Tryd.ntmps34
  go_wp2_with fail
  have C0 := H1.out (w.alloc (.cells (gotC 0 nilV [] 0 0).toArray 64))
  refine C0.mono ?_
  clear C0 H1
  rintro e w1 ⟨rfl, rfl⟩
  have hbs : (w.alloc (.cells (gotC 0 nilV [] 0 0).toArray 64)).heap.size = w.heap.size + 1 := alloc_size _ _
  have HSz : Hid (w.heap.size < (w.alloc (.cells (gotC 0 nilV [] 0 0).toArray 64)).heap.size) := by show _ < _; omega
  clear hbs
  generalize hw1 : w.alloc (.cells (gotC 0 nilV [] 0 0).toArray 64) = w1 at HBox HB HSz ⊢
  clear hw1
  rcases hnb with rfl | ⟨n, rfl, hn3⟩
  · have HX : Hid (X = .bad 32 p) := HN.out rfl
    have C1 := fault_any 32 (p : Int) w1
    go_wp2_with fail
    refine C1.mono ?_
    clear C1
    rintro e w2 ⟨rfl, hB2⟩
    have HBox2 : Hid (Bl 64 w2 w.heap.size (gotC 0 nilV [] 0 0)) := bl_below HBox.out hB2
    have HB2 : Hid (Below w.heap.size w w2) := HB.out.trans (hB2.mono HB.out.size)
    clear hB2
    obtain ⟨wz, hwz⟩ : ∃ wz, w2.setRow w.heap.size (gotC 0 nilV [] 32 (p : Int)).toArray = wz := ⟨_, rfl⟩
    have HBz : Hid (Bl 64 wz w.heap.size (gotC 0 nilV [] 32 (p : Int))) := by rw [← hwz]; exact set_bl HBox2.out
    have Hz : Hid (Below w.heap.size w wz) := by rw [← hwz]; exact setRow_below _ HB2.out (Nat.le_refl _)
    have HWz : Hid (w2.setRow w.heap.size (gotC 0 nilV [] 32 (p : Int)).toArray = wz) := hwz
    have hgi : (Tryd.prog.info? 64).map (·.size) = some 5 := by kernel_rfl
    clear hwz
    go_wp2_with (refine wpList_store_row rfl 64 (.tmp 4) (.tmp 22) rfl w.heap.size (gotC 0 nilV [] 32 (p : Int)).toArray rfl rfl 64 (gotC 0 nilV [] 0 0).toArray HBox2.out hgi rfl (by simp [gotC, nilV, Value.oneCell']) ?_; rw [HWz.out]; clear HWz hgi)
    (try simp only [Exit.inBlock, Exit.then])
    exact bodyPost_ret (v := gotV 0 nilV [] 32 (p : Int)) (results_got rfl _ _ w.heap.size 0 nilV [] 32 (p : Int) rfl HBz.out) rfl ⟨⟨_, rfl, by rw [HX.out]; exact ⟨_, _, rfl⟩⟩, Hz.out⟩
  · have q0 : decide ((n : Int) < 0) = false := decide_eq_false (by omega)
    obtain ⟨hlo, hhi⟩ := HLo.out
    have HLo1 : Hid (lo = RL 1 ∧ hi = RH 1) := ⟨hlo.symm, hhi.symm⟩
    clear hlo hhi HLo
    go_wp2
    go_loopw [6, 7, 8] (fun s6 s7 s8 wx => ∃ i : Nat, s8 = .int .i64 i ∧ 1 ≤ i ∧ i ≤ n + 1 ∧ s6 = .int .i64 (RL i) ∧ s7 = .int .i64 (RH i) ∧ wx = w1 ∧ ∀ j, 1 ≤ j → j < i → p + j < t.length ∧ RL j ≤ (t.getD (p + j) 0).toNat ∧ (t.getD (p + j) 0).toNat ≤ RH j) (fun _ _ s _ => n + 1 - (intOf s).toNat)
    case atStart => exact ⟨1, rfl, by omega, by omega, by rw [HLo1.out.1], by rw [HLo1.out.2], rfl, fun j h1 h2 => by omega⟩
    case round =>
      obtain ⟨i, rfl, hi1, hin, rfl, rfl, rfl, hall⟩ := hrel
      have HA : Hid (∀ j, 1 ≤ j → j < i → p + j < t.length ∧ RL j ≤ (t.getD (p + j) 0).toNat ∧ (t.getD (p + j) 0).toNat ≤ RH j) := hall
      clear hall
      by_cases hlt : i ≤ n
      · have q1 : decide ((i : Int) ≤ (n : Int)) = true := decide_eq_true (by omega)
        have C1 := byteAt_any t (p + i) wr (by omega)
        rw [show ((p + i : Nat) : Int) = (p : Int) + (i : Int) by omega] at C1
        go_wp2_with fail
        refine C1.mono ?_
        clear C1
        rintro e w2 ⟨rfl, rfl⟩
        by_cases hend : t.length ≤ p + i
        · have HX : Hid (X = .bad 31 t.length) := HE.out i (by omega) hi1 (by omega) hend (fun j h1 h2 => (HA.out j h1 h2).2)
          have hbt : bat t (p + i) = -1 := by unfold bat; rw [if_neg (by omega)]
          rw [hbt]
          clear hbt
          have C2 := fault_any 31 (t.length : Int) w2
          go_wp2_with fail
          refine C2.mono ?_
          clear C2
          rintro e w3 ⟨rfl, hB3⟩
          have HBox2 : Hid (Bl 64 w3 w.heap.size (gotC 0 nilV [] 0 0)) := bl_below HBox.out hB3
          have HB3 : Hid (Below w.heap.size w w3) := HB.out.trans (hB3.mono HB.out.size)
          clear hB3
          obtain ⟨wz, hwz⟩ : ∃ wz, w3.setRow w.heap.size (gotC 0 nilV [] 31 (t.length : Int)).toArray = wz := ⟨_, rfl⟩
          have HBz : Hid (Bl 64 wz w.heap.size (gotC 0 nilV [] 31 (t.length : Int))) := by rw [← hwz]; exact set_bl HBox2.out
          have Hz : Hid (Below w.heap.size w wz) := by rw [← hwz]; exact setRow_below _ HB3.out (Nat.le_refl _)
          have HWz : Hid (w3.setRow w.heap.size (gotC 0 nilV [] 31 (t.length : Int)).toArray = wz) := hwz
          have hgi : (Tryd.prog.info? 64).map (·.size) = some 5 := by kernel_rfl
          clear hwz
          go_wp2_with (refine wpList_store_row rfl 64 (.tmp 4) (.tmp 37) rfl w.heap.size (gotC 0 nilV [] 31 (t.length : Int)).toArray rfl rfl 64 (gotC 0 nilV [] 0 0).toArray HBox2.out hgi rfl (by simp [gotC, nilV, Value.oneCell']) ?_; rw [HWz.out]; clear HWz hgi)
          (try simp only [Exit.inBlock, Exit.then])
          exact bodyPost_ret (v := gotV 0 nilV [] 31 (t.length : Int)) (results_got rfl _ _ w.heap.size 0 nilV [] 31 (t.length : Int) rfl HBz.out) rfl ⟨⟨_, rfl, by rw [HX.out]; exact ⟨_, _, rfl⟩⟩, Hz.out⟩
        · obtain ⟨d, hd⟩ : ∃ d, (t.getD (p + i) 0).toNat = d := ⟨_, rfl⟩
          have hbt : bat t (p + i) = (d : Int) := by unfold bat; rw [if_pos (by omega), hd]
          rw [hbt]
          have q2 : decide ((d : Int) < 0) = false := decide_eq_false (by omega)
          clear hbt
          by_cases hin2 : RL i ≤ d ∧ d ≤ RH i
          · have q3 : decide ((d : Int) < (RL i : Int)) = false := decide_eq_false (by omega)
            have q4 : decide ((d : Int) > (RH i : Int)) = false := decide_eq_false (by omega)
            have HA2 : Hid (∀ j, 1 ≤ j → j < i + 1 → p + j < t.length ∧ RL j ≤ (t.getD (p + j) 0).toNat ∧ (t.getD (p + j) 0).toNat ≤ RH j) := fun j h1 h2 => by
              rcases Nat.lt_or_ge j i with h | h
              · exact HA.out j h1 h
              · obtain rfl : j = i := by omega
                exact ⟨by omega, by rw [hd]; exact hin2⟩
            have HLi := HLn.out i hi1
            have HLi2 : Hid (128 = RL (i + 1) ∧ 191 = RH (i + 1)) := ⟨HLi.1.symm, HLi.2.symm⟩
            clear HLi hd HA
            go_wp2
            go_roundw
            case rel => exact ⟨i + 1, by go_num, by omega, by omega, by rw [← HLi2.out.1]; rfl, by rw [← HLi2.out.2]; rfl, trivial, HA2.out⟩
            case measure => simp [intOf]; omega
          · have HX : Hid (X = .bad 32 p) := HBd.out i (by omega) hi1 (by omega) (by omega) (fun j h1 h2 => (HA.out j h1 h2).2) (by rw [hd]; exact hin2)
            have C2 := fault_any 32 (p : Int) w2
            have HBR : Hid (∀ w3 : World, Below w2.heap.size w2 w3 → Bl 64 w3 w.heap.size (gotC 0 nilV [] 0 0) ∧ Below w.heap.size w w3) := fun w3 h3 => ⟨bl_below HBox.out h3, HB.out.trans (h3.mono HB.out.size)⟩
            rcases (show d < RL i ∨ (RL i ≤ d ∧ RH i < d) by omega) with hd2 | hd2
            · have q3 : decide ((d : Int) < (RL i : Int)) = true := decide_eq_true (by omega)
              go_wp2_with fail
              refine C2.mono ?_
              clear C2
              rintro e w3 ⟨rfl, hB3⟩
              have HBox2 : Hid (Bl 64 w3 w.heap.size (gotC 0 nilV [] 0 0)) := (HBR.out w3 hB3).1
              have HB3 : Hid (Below w.heap.size w w3) := (HBR.out w3 hB3).2
              clear hB3 HBR
              obtain ⟨wz, hwz⟩ : ∃ wz, w3.setRow w.heap.size (gotC 0 nilV [] 32 (p : Int)).toArray = wz := ⟨_, rfl⟩
              have HBz : Hid (Bl 64 wz w.heap.size (gotC 0 nilV [] 32 (p : Int))) := by rw [← hwz]; exact set_bl HBox2.out
              have Hz : Hid (Below w.heap.size w wz) := by rw [← hwz]; exact setRow_below _ HB3.out (Nat.le_refl _)
              have HWz : Hid (w3.setRow w.heap.size (gotC 0 nilV [] 32 (p : Int)).toArray = wz) := hwz
              have hgi : (Tryd.prog.info? 64).map (·.size) = some 5 := by kernel_rfl
              clear hwz
              go_wp2_with (refine wpList_store_row rfl 64 (.tmp 4) (.tmp 47) rfl w.heap.size (gotC 0 nilV [] 32 (p : Int)).toArray rfl rfl 64 (gotC 0 nilV [] 0 0).toArray HBox2.out hgi rfl (by simp [gotC, nilV, Value.oneCell']) ?_; rw [HWz.out]; clear HWz hgi)
              (try simp only [Exit.inBlock, Exit.then])
              exact bodyPost_ret (v := gotV 0 nilV [] 32 (p : Int)) (results_got rfl _ _ w.heap.size 0 nilV [] 32 (p : Int) rfl HBz.out) rfl ⟨⟨_, rfl, by rw [HX.out]; exact ⟨_, _, rfl⟩⟩, Hz.out⟩
            · have q3 : decide ((d : Int) < (RL i : Int)) = false := decide_eq_false (by omega)
              have q4 : decide ((d : Int) > (RH i : Int)) = true := decide_eq_true (by omega)
              go_wp2_with fail
              refine C2.mono ?_
              clear C2
              rintro e w3 ⟨rfl, hB3⟩
              have HBox2 : Hid (Bl 64 w3 w.heap.size (gotC 0 nilV [] 0 0)) := (HBR.out w3 hB3).1
              have HB3 : Hid (Below w.heap.size w w3) := (HBR.out w3 hB3).2
              clear hB3 HBR
              obtain ⟨wz, hwz⟩ : ∃ wz, w3.setRow w.heap.size (gotC 0 nilV [] 32 (p : Int)).toArray = wz := ⟨_, rfl⟩
              have HBz : Hid (Bl 64 wz w.heap.size (gotC 0 nilV [] 32 (p : Int))) := by rw [← hwz]; exact set_bl HBox2.out
              have Hz : Hid (Below w.heap.size w wz) := by rw [← hwz]; exact setRow_below _ HB3.out (Nat.le_refl _)
              have HWz : Hid (w3.setRow w.heap.size (gotC 0 nilV [] 32 (p : Int)).toArray = wz) := hwz
              have hgi : (Tryd.prog.info? 64).map (·.size) = some 5 := by kernel_rfl
              clear hwz
              go_wp2_with (refine wpList_store_row rfl 64 (.tmp 4) (.tmp 47) rfl w.heap.size (gotC 0 nilV [] 32 (p : Int)).toArray rfl rfl 64 (gotC 0 nilV [] 0 0).toArray HBox2.out hgi rfl (by simp [gotC, nilV, Value.oneCell']) ?_; rw [HWz.out]; clear HWz hgi)
              (try simp only [Exit.inBlock, Exit.then])
              exact bodyPost_ret (v := gotV 0 nilV [] 32 (p : Int)) (results_got rfl _ _ w.heap.size 0 nilV [] 32 (p : Int) rfl HBz.out) rfl ⟨⟨_, rfl, by rw [HX.out]; exact ⟨_, _, rfl⟩⟩, Hz.out⟩
      · have q1 : decide ((i : Int) ≤ (n : Int)) = false := decide_eq_false (by omega)
        obtain rfl : i = n + 1 := by omega
        have hln : p + n < t.length := by
          rcases Nat.eq_zero_or_pos n with rfl | h0
          · omega
          · exact (HA.out n h0 (by omega)).1
        have HX : Hid (X = .ok (sgl t p (p + n + 1)) (p + n + 1)) := HO.out n rfl hln (fun j h1 h2 => (HA.out j h1 (by omega)).2)
        obtain ⟨z, hz⟩ : ∃ z, p + n + 1 = z := ⟨_, rfl⟩
        rw [hz] at HX
        have Hsl : Hid ((⟨t.toArray⟩ : ByteArray).extract p z = ⟨(sgl t p z).toArray⟩) := ext_sgl t p z
        generalize sgl t p z = S at HX Hsl
        have q5 : ((p : Int) + (n : Int) + 1) = (z : Int) := by omega
        have hsl := Hsl.out
        have q6 : z ≤ t.length := by omega
        have q7 : p ≤ z := by omega
        clear hz
        obtain ⟨wz, hwz⟩ : ∃ wz, wr.setRow w.heap.size (gotC (z : Int) nilV S 0 0).toArray = wz := ⟨_, rfl⟩
        have HBz : Hid (Bl 64 wz w.heap.size (gotC (z : Int) nilV S 0 0)) := by rw [← hwz]; exact set_bl HBox.out
        have Hz : Hid (Below w.heap.size w wz) := by rw [← hwz]; exact setRow_below _ HB.out (Nat.le_refl _)
        have HWz : Hid (wr.setRow w.heap.size (gotC (z : Int) nilV S 0 0).toArray = wz) := hwz
        have hgi : (Tryd.prog.info? 64).map (·.size) = some 5 := by kernel_rfl
        clear hwz
        go_wp2_with (refine wpList_store_row rfl 64 (.tmp 4) (.tmp 59) rfl w.heap.size (gotC (z : Int) nilV S 0 0).toArray rfl rfl 64 (gotC 0 nilV [] 0 0).toArray HBox.out hgi rfl (by simp [gotC, nilV, Value.oneCell']) ?_; rw [HWz.out]; clear HWz hgi)
        (try simp only [Exit.inBlock, Exit.then])
        exact bodyPost_ret (v := gotV (z : Int) nilV S 0 0) (results_got rfl _ _ w.heap.size (z : Int) nilV S 0 0 rfl HBz.out) rfl ⟨⟨_, rfl, by rw [HX.out]; rfl⟩, Hz.out⟩

end Go.Proofs.YtkfchdmlemcjhaaDoor

namespace Go.Proofs.YtkfchdmlemcjhaaDoor
open Go.RowKit Go.Shelf

/-- What is told of four digits. -/
def Got4 (x : Lx Int) (v : Value) : Prop := match x with
  | .ok u q => v = .tuple #[.int .i64 u, gotV (q : Int) nilV [] 0 0]
  | .bad c b => v = .tuple #[.int .i64 0, gotV 0 nilV [] (c : Int) (b : Int)]

/-- What the digits so far may be. -/
def Fst (i : Nat) (u : Int) : Prop := 0 ≤ u ∧ (i = 0 → u = 0) ∧ (i = 1 → u ≤ 15) ∧ (i = 2 → u ≤ 255 ∧ (u < 220 ∨ 224 ≤ u)) ∧ (i = 3 → u ≤ 4095 ∧ (u < 3520 ∨ 3584 ≤ u)) ∧ u ≤ 65535
def Snd (i : Nat) (u : Int) : Prop := 0 ≤ u ∧ (i = 0 → u = 0) ∧ (i = 1 → u = 13) ∧ (i = 2 → 220 ≤ u ∧ u < 224) ∧ (i = 3 → 3520 ≤ u ∧ u < 3584) ∧ u ≤ 65535

end Go.Proofs.YtkfchdmlemcjhaaDoor

namespace Go.Proofs.YtkfchdmlemcjhaaDoor
open Go.RowKit Go.Shelf

end Go.Proofs.YtkfchdmlemcjhaaDoor

namespace Go.Proofs.YtkfchdmlemcjhaaDoor
open Go.RowKit Go.Shelf

end Go.Proofs.YtkfchdmlemcjhaaDoor

namespace Go.Proofs.YtkfchdmlemcjhaaDoor
open Go.RowKit Go.Shelf

/-- An escape, as the bytes that it says. -/
def esF (t : List UInt8) (p : Nat) : Lx (List UInt8) := match escF t p with
  | .ok r q => .ok (Lib.encodeRune r) q
  | .bad c b => .bad c b
end Go.Proofs.YtkfchdmlemcjhaaDoor

namespace Go.Proofs.YtkfchdmlemcjhaaDoor
open Go.RowKit Go.Shelf

def nxF (t : List UInt8) (n : Nat) (acc : List UInt8) : Lx (List UInt8) → Lx (List UInt8)
  | .bad c q => .bad c q
  | .ok S q => quoF t n q (acc ++ S)
end Go.Proofs.YtkfchdmlemcjhaaDoor

namespace Go.Proofs.YtkfchdmlemcjhaaDoor
open Go.RowKit Go.Shelf

/-- One digit or more. -/
def dgF (t : List UInt8) (p : Nat) : Lx Unit := if tk t digitsS p then .ok () (skp t digitsS p) else .bad 31 p
def GotU (x : Lx Unit) (v : Value) : Prop := match x with
  | .ok _ q => v = gotV (q : Int) nilV [] 0 0
  | .bad c b => v = gotV 0 nilV [] (c : Int) (b : Int)
/-- Texts that can be read. -/
structure SR (w : World) (v : Value) (l : List (List UInt8)) : Prop where
  ex : ∃ ao cap, v = .slice ao l.length cap ∧ (l = [] ∨ ∃ g off : Nat, ao = some ⟨g, off, none⟩ ∧ ∀ j, j < l.length → w.cell? ⟨g, off + j, none⟩ = some (.string ⟨(l.getD j []).toArray⟩))

set_option maxRecDepth 100000 in
set_option maxHeartbeats 4000000 in
theorem among_any (v : Value) (l : List (List UInt8)) (s : List UInt8) (w : World) (h : SR w v l) (hl : l.length ≤ 1000000000) :
    Calls Tryd.prog 24 #[v, .string ⟨s.toArray⟩] w fun e w' => e = .returned (.bool (l.contains s)) ∧ w' = w := by
  obtain ⟨ao, cap, rfl, hc⟩ := h.ex
  have HC : Hid (∀ j, j < l.length → ∃ g off : Nat, ao = some ⟨g, off, none⟩ ∧ w.cell? ⟨g, off + j, none⟩ = some (.string ⟨(l.getD j []).toArray⟩)) := fun j hj => by
    rcases hc with h0 | ⟨g, off, e, h1⟩
    · subst h0; simp at hj
    · exact ⟨g, off, e, h1 j hj⟩
  clear h hc
  go_enter Tryd.func24, Tryd.ntmps24
  go_wp2
  go_loopw [5] (fun s5 wx => ∃ k : Nat, s5 = .int .i64 k ∧ k ≤ l.length ∧ wx = w ∧ ∀ j, j < k → l.getD j [] ≠ s) (fun x _ => l.length - (intOf x).toNat)
  case atStart => exact ⟨0, rfl, Nat.zero_le _, rfl, fun j hj => by omega⟩
  case round =>
    obtain ⟨k, rfl, hk, rfl, hne⟩ := hrel
    have HNe : Hid (∀ j, j < k → l.getD j [] ≠ s) := hne
    clear hne
    by_cases hlt : k < l.length
    · have q0 : decide ((k : Int) < (l.length : Int)) = true := decide_eq_true (by omega)
      obtain ⟨g, off, rfl, kc⟩ := HC.out k hlt
      obtain ⟨x, hx⟩ : ∃ x, l.getD k [] = x := ⟨_, rfl⟩
      rw [hx] at kc
      by_cases he : x = s
      · subst he
        have HF : Hid (l.contains x = true) := by
          show _ = _
          rw [List.contains_iff_mem, ← hx, List.getD_eq_getElem?_getD, List.getElem?_eq_getElem hlt]
          exact List.getElem_mem hlt
        clear hx HNe
        go_wp2
        go_ret
        rw [HF.out]
        exact ⟨rfl, rfl⟩
      · have qs : (x == s) = false := by simpa using he
        have HN2 : Hid (∀ j, j < k + 1 → l.getD j [] ≠ s) := fun j hj => by
          rcases Nat.lt_or_ge j k with h | h
          · exact HNe.out j h
          · obtain rfl : j = k := by omega
            rw [hx]; exact he
        clear hx HNe he
        go_wp2
        go_roundw
        case rel => exact ⟨k + 1, by go_num, by omega, trivial, HN2.out⟩
        case measure => simp [intOf]; omega
    · have q0 : decide ((k : Int) < (l.length : Int)) = false := decide_eq_false (by omega)
      have HF : Hid (l.contains s = false) := by
        show _ = _
        cases hcc : l.contains s
        · rfl
        · obtain ⟨j, hj, e⟩ := List.getElem_of_mem (List.contains_iff_mem.1 hcc)
          exact absurd (by rw [List.getD_eq_getElem?_getD, List.getElem?_eq_getElem hj]; exact e) (HNe.out j (by omega))
      go_wp2
      go_ret
      rw [HF.out]
      exact ⟨rfl, rfl⟩

end Go.Proofs.YtkfchdmlemcjhaaDoor

namespace Go.Proofs.YtkfchdmlemcjhaaDoor
open Go.RowKit Go.Shelf

/-- What is told of a value. -/
def GotL (x : Lx (List Nd)) (v : Value) (B : Nat) (w : World) : Prop := match x with
  | .ok L q => ∃ lv S, v = gotV (q : Int) lv S 0 0 ∧ NO B w lv L
  | .bad c b => ∃ a S, v = gotV a nilV S (c : Int) (b : Int)
/-- A word. -/
def ltG (k : Int) : Lx Unit → Lx (List Nd)
  | .ok _ q => .ok [nd0 k] q
  | .bad c b => .bad c b
def ltF (t word : List UInt8) (k : Int) (p : Nat) : Lx (List Nd) := ltG k (litF t word p)
end Go.Proofs.YtkfchdmlemcjhaaDoor
