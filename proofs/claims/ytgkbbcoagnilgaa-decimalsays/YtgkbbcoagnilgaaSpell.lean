import Derived.Test.YtgkbbcoagnilgaaLimb3
import Derived.Test.YtgkbbcoagnilgaaFixM2
import Derived.Deep.DeepAppendWide
namespace Go.Proofs.Ytgkbbcoagnilgaa
open Go.RowKit

/-- A row of bytes in a block, all of it one may write. -/
def Fb (W : World) (b : Nat) (l : List UInt8) : Prop := ∃ t, W.heap[b]? = some (.cells (l.map fun c => Value.int .u8 (c.toNat : Int)).toArray t (0, 0))

theorem Fb.cell {W : World} {b : Nat} {l : List UInt8} (h : Fb W b l) (j : Nat) (hj : j < l.length) : W.cell? ⟨b, j, none⟩ = some (.int .u8 (l[j].toNat : Int)) := by
  obtain ⟨t, ht⟩ := h
  unfold World.cell?
  simp [ht, hj]
theorem Fb.frozen {W : World} {b : Nat} {l : List UInt8} (h : Fb W b l) (j : Nat) : W.frozen? ⟨b, j, none⟩ = false := by
  obtain ⟨t, ht⟩ := h
  unfold World.frozen?
  simp [ht]
theorem Fb.set {W : World} {b : Nat} {l : List UInt8} (h : Fb W b l) (j : Nat) (c : UInt8) : Fb (W.setCell ⟨b, j, none⟩ (.int .u8 (c.toNat : Int))) b (l.set j c) := by
  obtain ⟨t, ht⟩ := h
  refine ⟨t, ?_⟩
  rw [heap_setCell_same W b j _ t _ ht]
  congr 2
  simp [List.map_set]
theorem Fb.but {W W' : World} {b x : Nat} {l : List UInt8} (h : Fb W b l) (hB : But W W' x) (hne : b ≠ x) : Fb W' b l := by
  obtain ⟨t, ht⟩ := h
  exact ⟨t, (hB.2.2.2.2 b hne).trans ht⟩
theorem Fx.setOther {W : World} {b : Nat} {xs : List Nat} (h : Fx W b xs) (a : Addr) (hne : b ≠ a.block) (v : Value) : Fx (W.setCell a v) b xs := by
  obtain ⟨t, ht⟩ := h
  exact ⟨t, (heap_setCell_other W a b v hne).trans ht⟩

/-- All blocks but these two stand as they stood. -/
def But2 (w w' : World) (b c : Nat) : Prop := w'.os = w.os ∧ w'.tape = w.tape ∧ w'.output = w.output ∧ w'.heap.size = w.heap.size ∧ ∀ k, k ≠ b → k ≠ c → w'.heap[k]? = w.heap[k]?
theorem But2.refl (w : World) (b c : Nat) : But2 w w b c := ⟨rfl, rfl, rfl, rfl, fun _ _ _ => rfl⟩
theorem But2.but {w w' w'' : World} {b c : Nat} (h : But2 w w' b c) (k : But w' w'' b) : But2 w w'' b c :=
  ⟨k.1.trans h.1, k.2.1.trans h.2.1, k.2.2.1.trans h.2.2.1, k.2.2.2.1.trans h.2.2.2.1, fun x h1 h2 => (k.2.2.2.2 x h1).trans (h.2.2.2.2 x h1 h2)⟩
theorem But2.set {w w' : World} {b c : Nat} (h : But2 w w' b c) (j : Nat) (v : Value) : But2 w (w'.setCell ⟨c, j, none⟩ v) b c := by
  obtain ⟨h1, h2, h3, h4, h5⟩ := h
  refine ⟨h1, h2, h3, ?_, fun x e1 e2 => ?_⟩
  · rw [← h4]; simp
  · rw [heap_setCell_other w' _ x v e2]; exact h5 x e1 e2

/-- The digits of a whole number below 10^n; none of nought. -/
def dgF : Nat → Nat → List UInt8
  | 0, _ => []
  | n + 1, v => if v = 0 then [] else dgF n (v / 10) ++ [UInt8.ofNat (48 + v % 10)]

/-- The digits of a whole number, at least one. -/
def decT (v : Nat) : List UInt8 := if v = 0 then [48] else dgF 39 v

theorem ofNat_toNat (r : Nat) (h : r < 10) : (UInt8.ofNat (48 + r)).toNat = 48 + r := by
  rw [UInt8.toNat_ofNat']
  exact Nat.mod_eq_of_lt (by omega)

/-- The row of noughts that the digits begin as. -/
abbrev Z39 : List UInt8 := List.replicate 39 0

theorem drop_set_self (l : List UInt8) (j : Nat) (c : UInt8) (h : j < l.length) : (l.set j c).drop j = c :: l.drop (j + 1) := by
  rw [List.drop_eq_getElem_cons (by rw [List.length_set]; exact h), List.getElem_set_self, List.drop_set_of_lt (by omega)]

/-- What holds of the digits so far, where a of their places are free. -/
def DInv (a V V0 : Nat) (ds : List UInt8) : Prop := if a = 39 then V = V0 else dgF a V ++ ds.drop a = decT V0

theorem dinv_start (V : Nat) (ds : List UInt8) : DInv 39 V V ds := by unfold DInv; rw [if_pos rfl]

theorem dgF_zero (n : Nat) : dgF n 0 = [] := by cases n <;> rfl

theorem DInv.step {k V V0 q r : Nat} {ds : List UInt8} (h : DInv (k + 1) V V0 ds) (hd : ds.length = 39) (hk : k < 39) (hV : 10 * q + r = V) (hr : r < 10) (hgo : k + 1 = 39 ∨ V ≠ 0) : DInv k q V0 (ds.set k (UInt8.ofNat (48 + r))) := by
  have hq : q = V / 10 := by omega
  have hr' : r = V % 10 := by omega
  unfold DInv
  rw [if_neg (by omega), drop_set_self ds k _ (by omega)]
  unfold DInv at h
  by_cases h39 : k + 1 = 39
  · rw [if_pos h39] at h
    subst h
    rw [h39, List.drop_eq_nil_of_le (by omega)]
    unfold decT
    by_cases h0 : V = 0
    · rw [if_pos h0]
      have : q = 0 := by omega
      have hr0 : r = 0 := by omega
      rw [this, dgF_zero, hr0]; rfl
    · rw [if_neg h0]
      obtain rfl : k = 38 := by omega
      show _ = (if V = 0 then [] else dgF 38 (V / 10) ++ [UInt8.ofNat (48 + V % 10)])
      rw [if_neg h0, hq, hr']
  · rw [if_neg h39] at h
    have h0 : V ≠ 0 := hgo.resolve_left h39
    rw [← h]
    show _ = (if V = 0 then [] else dgF k (V / 10) ++ [UInt8.ofNat (48 + V % 10)]) ++ ds.drop (k + 1)
    rw [if_neg h0, hq, hr', List.append_assoc]
    rfl

theorem Try.infoB : (Try.prog.info? 5).map (fun i => (i.zero, i.size, i.bytes)) = some (some (.int .u8 0), 1, 1) := by kernel_rfl

/-- A byte as the model's value. -/
def Bv (c : UInt8) : Value := .int .u8 (c.toNat : Int)

/-- The text of limbs: five behind the dot, five ahead of it. -/
def spellT (xs : List Nat) : List UInt8 := decT (wv 4294967296 5 xs 5) ++ if wv 4294967296 0 xs 5 = 0 then [] else 46 :: frF (4294967296 ^ 5) 160 (wv 4294967296 0 xs 5)

/-- What is older than base stands as it stood, but for this block. -/
def Frm (B b : Nat) (w w' : World) : Prop := w'.os = w.os ∧ w'.tape = w.tape ∧ w'.output = w.output ∧ w.heap.size ≤ w'.heap.size ∧ ∀ k, k < B → k ≠ b → w'.heap[k]? = w.heap[k]?
theorem Frm.refl (B b : Nat) (w : World) : Frm B b w w := ⟨rfl, rfl, rfl, Nat.le_refl _, fun _ _ _ => rfl⟩
theorem Frm.but {B b : Nat} {w w' w'' : World} (h : Frm B b w w') (k : But w' w'' b) : Frm B b w w'' :=
  ⟨k.1.trans h.1, k.2.1.trans h.2.1, k.2.2.1.trans h.2.2.1, Nat.le_trans h.2.2.2.1 (Nat.le_of_eq k.2.2.2.1.symm), fun x h1 h2 => (k.2.2.2.2 x h2).trans (h.2.2.2.2 x h1 h2)⟩
theorem Frm.but2 {B b c : Nat} {w w' w'' : World} (h : Frm B b w w') (k : But2 w' w'' b c) (hc : B ≤ c) : Frm B b w w'' :=
  ⟨k.1.trans h.1, k.2.1.trans h.2.1, k.2.2.1.trans h.2.2.1, Nat.le_trans h.2.2.2.1 (Nat.le_of_eq k.2.2.2.1.symm), fun x h1 h2 => (k.2.2.2.2 x h2 (by omega)).trans (h.2.2.2.2 x h1 h2)⟩
theorem Frm.alloc {B b : Nat} {w w' : World} (h : Frm B b w w') (hB : B ≤ w'.heap.size) (o : Obj) : Frm B b w (w'.alloc o) :=
  ⟨h.1, h.2.1, h.2.2.1, by rw [World.size_alloc]; have := h.2.2.2.1; omega, fun x h1 h2 => (Below.heap_alloc w' o x (by omega)).trans (h.2.2.2.2 x h1 h2)⟩
theorem Frm.grown {B b : Nat} {w w' w'' : World} {row : Option Nat} (h : Frm B b w w') (k : w'.grownBy w'' row) (hB : B ≤ w'.heap.size) (hr : ∀ j, row = some j → B ≤ j) : Frm B b w w'' :=
  ⟨k.os.trans h.1, k.tape.trans h.2.1, k.output.trans h.2.2.1, Nat.le_trans h.2.2.2.1 k.size, fun x h1 h2 => (k.block x (by omega) (fun e => by have := hr x e.symm; omega)).trans (h.2.2.2.2 x h1 h2)⟩

theorem own_but2 {w w' : World} {B e n b c : Nat} {v : Value} {xs : List Value} (h : w.ownsRow B e 1 v n xs) (hB : But2 w w' b c) (h1 : v.ownBlock ≠ some b) (h2 : v.ownBlock ≠ some c) : w'.ownsRow B e 1 v n xs := by
  obtain ⟨hl, h⟩ := h
  refine ⟨hl, ?_⟩
  rcases h with h | ⟨g, cap, cur, rfl, hb, hg, hr⟩
  · exact .inl h
  · exact .inr ⟨g, cap, cur, rfl, hb, (hB.2.2.2.2 g (fun e => h1 (by rw [← e]; rfl)) (fun e => h2 (by rw [← e]; rfl))).trans hg, hr⟩
theorem own_but {w w' : World} {B e n b : Nat} {v : Value} {xs : List Value} (h : w.ownsRow B e 1 v n xs) (hB : But w w' b) (h1 : v.ownBlock ≠ some b) : w'.ownsRow B e 1 v n xs :=
  own_but2 h (c := b) ⟨hB.1, hB.2.1, hB.2.2.1, hB.2.2.2.1, fun k h _ => hB.2.2.2.2 k h⟩ h1 h1

/-- A row of bytes lies in no block of limbs. -/
theorem own_ne {w : World} {bF B e n : Nat} {ys : List Nat} {v : Value} {T : List UInt8} (hF : Fx w bF ys) (ho : w.ownsRow B e 1 v n (T.map Bv)) (hT : 0 < T.length) : v.ownBlock ≠ some bF := by
  intro h
  obtain ⟨hl, h1⟩ := ho
  rcases h1 with ⟨rfl, hn⟩ | ⟨g, cap, cur, rfl, hb, hg, h3, h4, h5, h6⟩
  · cases h
  · have hgb : g = bF := by simpa [Value.ownBlock] using h
    subst hgb
    obtain ⟨t, ht⟩ := hF
    rw [ht] at hg
    simp only [Option.some.injEq, Obj.cells.injEq] at hg
    rw [← hg.1] at h6
    rw [List.length_map] at hl
    cases T with
    | nil => simp at hT
    | cons c T =>
      cases ys with
      | nil => simp at h6
      | cons y ys =>
        rw [show n * 1 = T.length + 1 by simp at hl; omega] at h6
        simp [Bv, U] at h6

/-- How many elements a slice has. -/
def lenV : Value → Nat
  | .slice _ n _ => n
  | _ => 0
theorem own_len {w : World} {B e n : Nat} {v : Value} {xs : List Value} (h : w.ownsRow B e 1 v n xs) : lenV v = n := by
  rcases h.2 with ⟨rfl, hn⟩ | ⟨g, cap, cur, rfl, _⟩
  · exact hn.symm
  · rfl

theorem wv_congr (B off : Nat) (xs ys : List Nat) : ∀ n, (∀ j, j < off + n → ys.getD j 0 = xs.getD j 0) → wv B off ys n = wv B off xs n
  | 0, _ => rfl
  | n + 1, h => by
    unfold wv
    rw [h (off + n) (by omega), wv_congr B off xs ys n (fun j hj => h j (by omega))]

theorem frF_zero (N n : Nat) : frF N n 0 = [] := by cases n <;> rfl
theorem frF_len (N : Nat) : ∀ n v, (frF N n v).length ≤ n
  | 0, _ => by simp [frF]
  | n + 1, v => by
    unfold frF
    split
    · simp
    · have := frF_len N n (10 * v % N)
      simp; omega
theorem dgF_len : ∀ n v, (dgF n v).length ≤ n
  | 0, _ => by simp [dgF]
  | n + 1, v => by
    unfold dgF
    split
    · simp
    · have := dgF_len n (v / 10)
      simp; omega
theorem decT_len (v : Nat) : (decT v).length ≤ 39 := by
  unfold decT
  split
  · simp
  · exact dgF_len 39 v

/-- What holds of the digits behind the dot so far. -/
def FInv (m fv : Nat) (T full : List UInt8) : Prop := m ≤ 160 ∧ 2 ^ (160 - m) ∣ fv ∧ fv < 4294967296 ^ 5 ∧ T ++ frF (4294967296 ^ 5) m fv = full

theorem FInv.stop {m fv : Nat} {T full : List UInt8} (h : FInv m fv T full) (h0 : fv = 0) : T = full := by
  have := h.2.2.2
  rw [h0, frF_zero, List.append_nil] at this
  exact this

theorem FInv.step {m fv q r : Nat} {T full : List UInt8} (h : FInv m fv T full) (h0 : fv ≠ 0) (hv : q + r * 4294967296 ^ 5 = 10 * fv) (hq : q < 4294967296 ^ 5) : ∃ k, m = k + 1 ∧ r < 10 ∧ FInv k q (T ++ [UInt8.ofNat (48 + r)]) full := by
  obtain ⟨hm, hd, hlt, hT⟩ := h
  have e : (4294967296 : Nat) ^ 5 = 2 ^ 160 := by decide
  cases m with
  | zero =>
    exfalso
    have := Nat.le_of_dvd (Nat.pos_of_ne_zero h0) hd
    rw [e] at hlt
    simp only [Nat.sub_zero] at this
    omega
  | succ k =>
    have hN : (0 : Nat) < 4294967296 ^ 5 := by decide
    have hqm : q = 10 * fv % 4294967296 ^ 5 := by rw [← hv, Nat.add_mul_mod_self_right, Nat.mod_eq_of_lt hq]
    have hrd : r = 10 * fv / 4294967296 ^ 5 := by rw [← hv, Nat.add_mul_div_right _ _ hN, Nat.div_eq_of_lt hq, Nat.zero_add]
    refine ⟨k, rfl, ?_, by omega, ?_, hq, ?_⟩
    · rw [hrd]; exact Nat.div_lt_of_lt_mul (by omega)
    · rw [hqm]
      refine (Nat.dvd_mod_iff ?_).2 ?_
      · rw [e]; exact Nat.pow_dvd_pow 2 (by omega)
      · have h2 : 2 ^ (160 - k) = 2 ^ (160 - (k + 1)) * 2 := by rw [← Nat.pow_succ]; congr 1; omega
        rw [h2, Nat.mul_comm 10 fv]
        exact Nat.mul_dvd_mul hd (by decide)
    · rw [← hT]
      show _ = T ++ (if fv = 0 then [] else UInt8.ofNat (48 + 10 * fv / 4294967296 ^ 5) :: frF (4294967296 ^ 5) k (10 * fv % 4294967296 ^ 5))
      rw [if_neg h0, ← hqm, ← hrd, List.append_assoc]
      rfl

theorem digits_slice (bD a : Nat) (w : World) (h : a < 39) :
    (Instr.sliceAt 39 (.pointer (some ⟨bD, 0, none⟩)) (some (.int .i64 (a : Int))) none none).run Try.prog w = .ok (.slice (some ⟨bD, a, none⟩) (39 - a) (39 - a)) w := by
  rw [run_sliceAt_array_l w 39 ⟨bD, 0, none⟩ (by kernel_rfl) .i64 (a : Int) (by omega) (by rw [show Try.prog.arrayLen 39 = 39 from by kernel_rfl]; omega)]
  have e : Try.prog.arrayLen 39 = 39 := by kernel_rfl
  have e0 : Try.prog.elem 39 = 5 := by kernel_rfl
  obtain ⟨i0, hi, _⟩ := info_parts Try.infoB
  have e2 : (sizeOf (Try.prog.elem 39)).run Try.prog w = .ok 1 w := by
    rw [e0, run_sizeOf w hi, show Try.prog.cellsOf 5 = 1 from by kernel_rfl]
  have ea : (⟨bD, 0, none⟩ : Addr).add a = ⟨bD, a, none⟩ := by
    unfold Addr.add
    by_cases h0 : a = 0
    · subst h0; rfl
    · simp [h0]
  rw [e, e2]
  show Result.ok (slicedAt _ _ _ _ 1) w = _
  unfold slicedAt
  rw [if_neg (by simp; omega)]
  simp only [Int.toNat_natCast, Nat.mul_one]
  rw [ea]

set_option maxRecDepth 10000 in
set_option maxHeartbeats 4000000 in
theorem spell_any (bF B n0 : Nat) (xs : List Nat) (v0 : Value) (pre : List UInt8) (w : World) (hB0 : B ≤ w.heap.size) (hown0 : w.ownsRow B 5 1 v0 n0 (pre.map Bv)) (hpre : pre.length ≤ 1) (hvF : v0.ownBlock ≠ some bF) (hF : Fx w bF xs) (hbF : bF < w.heap.size) (hl : xs.length = 10) (hs : smallL xs) (hV : wv 4294967296 5 xs 5 < 10 ^ 39) :
    Calls Try.prog 7 #[.pointer (some ⟨bF, 0, none⟩), v0] w fun e w' => ∃ v, e = .returned v ∧ w'.ownsRow B 5 1 v (pre ++ spellT xs).length ((pre ++ spellT xs).map Bv) ∧ Frm B bF w w' := by
  obtain ⟨W1, hW1⟩ : ∃ W1, W1 = w.alloc (.cells ((Z39.map fun c => Value.int .u8 (c.toNat : Int)).toArray) 39) := ⟨_, rfl⟩
  have hF1 : Fx W1 bF xs := by
    obtain ⟨t, ht⟩ := hF
    exact ⟨t, by rw [hW1, Below.heap_alloc w _ bF hbF]; exact ht⟩
  have hb1 : Fb W1 w.heap.size Z39 := ⟨39, by rw [hW1]; exact heap_alloc_new w _⟩
  have HF1 : Hid (Fx W1 bF xs ∧ Fb W1 w.heap.size Z39) := ⟨hF1, hb1⟩
  have hsz : w.heap.size < W1.heap.size := by rw [hW1, World.size_alloc]; omega
  have hl1 : 10 ≤ xs.length := by omega
  have hl2 : xs.length ≤ 10 := by omega
  have Hs : Hid (smallL xs) := hs
  have HV : Hid (wv 4294967296 5 xs 5 < 10 ^ 39) := hV
  have HO1 : Hid (W1.ownsRow B 5 1 v0 n0 (pre.map Bv)) := by rw [hW1]; exact hown0.alloc _
  have HvF : Hid (v0.ownBlock ≠ some bF) := hvF
  have HvD : Hid (v0.ownBlock ≠ some w.heap.size) := fun e => by have := (hown0.lt _ e).2; omega
  have HvB : Hid (∀ j, v0.ownBlock = some j → B ≤ j) := fun j e => (hown0.lt j e).1
  have HR1 : Hid (Frm B bF w W1) := by rw [hW1]; exact (Frm.refl B bF w).alloc hB0 _
  have hn0 : n0 ≤ 1 := by have := hown0.1; rw [List.length_map] at this; omega
  have Hn0 : Hid (pre.length = n0) := by have := hown0.1; rw [List.length_map] at this; show _ = _; omega
  have HW1 : Hid (W1 = w.alloc (.cells ((Z39.map fun c => Value.int .u8 (c.toNat : Int)).toArray) 39)) := hW1
  clear hF hl hs hV hF1 hb1 hW1 hown0 hvF
  go_enter Try.func7, Try.ntmps7
  go_wp2_with fail
  have eW : w.alloc (.cells #[Value.int IntKind.u8 0, .int .u8 0, .int .u8 0, .int .u8 0, .int .u8 0, .int .u8 0, .int .u8 0, .int .u8 0, .int .u8 0, .int .u8 0, .int .u8 0, .int .u8 0, .int .u8 0, .int .u8 0, .int .u8 0, .int .u8 0, .int .u8 0, .int .u8 0, .int .u8 0, .int .u8 0, .int .u8 0, .int .u8 0, .int .u8 0, .int .u8 0, .int .u8 0, .int .u8 0, .int .u8 0, .int .u8 0, .int .u8 0, .int .u8 0, .int .u8 0, .int .u8 0, .int .u8 0, .int .u8 0, .int .u8 0, .int .u8 0, .int .u8 0, .int .u8 0, .int .u8 0] 39) = W1 := by rw [HW1.out]; rfl
  rw [eW]
  have HeW : Hid _ := eW
  clear eW
  obtain ⟨bD, hbD⟩ : ∃ bD, bD = w.heap.size := ⟨_, rfl⟩
  rw [← hbD] at HF1 hsz hbF HvD hB0 ⊢
  have HbD : Hid (bD = w.heap.size) := hbD
  clear hbD
  go_loopw [6] (fun s6 wr => ∃ (a : Nat) (ys : List Nat) (ds : List UInt8), s6 = .int .i64 (a : Int) ∧ a ≤ 39 ∧ Hid (Fx wr bF ys) ∧ ys.length ≤ 10 ∧ 10 ≤ ys.length ∧ Hid (smallL ys) ∧ Hid (Fb wr bD ds) ∧ ds.length ≤ 39 ∧ 39 ≤ ds.length ∧ Hid (But2 W1 wr bF bD) ∧
      Hid (wv 4294967296 5 ys 5 < 10 ^ a) ∧ Hid (∀ j, j < 5 → ys.getD j 0 = xs.getD j 0) ∧ Hid (DInv a (wv 4294967296 5 ys 5) (wv 4294967296 5 xs 5) ds)) (fun s _ => (intOf s).toNat)
  case atStart => exact ⟨39, xs, Z39, rfl, Nat.le_refl _, HF1.out.1, hl2, hl1, Hs, HF1.out.2, by decide, by decide, But2.refl _ _ _, HV, fun _ _ => rfl, dinv_start _ _⟩
  case round =>
    obtain ⟨a, ys, ds, rfl, ha, HF, hy1, hy2, Hsy, HD, hd1, hd2, HB, HVy, Hfr, Hinv⟩ := hrel
    have hbFr : bF < wr.heap.size := by rw [HB.out.2.2.2.1]; omega
    have hbDr : bD < wr.heap.size := by rw [HB.out.2.2.2.1]; omega
    have hne : bF ≠ bD := by omega
    have Hne : Hid (bF ≠ bD) := hne
    have Hzi : Hid _ := zeros_iff 4294967296 5 (by decide) ys 5 (by omega)
    obtain ⟨zb, hzb⟩ : ∃ zb, zeros ((ys.drop 5).take 5) = zb := ⟨_, rfl⟩
    have Hzb : Hid (zeros ((ys.drop 5).take 5) = zb) := hzb
    have Hval : Hid _ := ovF_val 4294967296 5 5 ys 0 (by omega)
    have hr10 := ovF_rem 4294967296 5 5 ys 0 (by decide)
    have Hsm : Hid _ := ovF_small 5 5 ys 0 Hsy.out (by decide) (by omega)
    have hol := ovF_len 4294967296 5 5 ys 0
    have Hout : Hid _ := fun j h => ovF_out 4294967296 5 5 ys 0 j h
    have Hov : Hid (∀ W, Fx W bF ys → Calls Try.prog 12 #[.slice (some ⟨bF, 5, none⟩) 5 5, .int .u32 0] W fun e w' => e = .returned (.int .u32 ((ovF 4294967296 5 5 ys 0).2 : Int)) ∧ Fx w' bF (ovF 4294967296 5 5 ys 0).1 ∧ But W w' bF) := fun W h => overTen_any bF 5 5 5 0 ys W h (by omega) (by omega) Hsy.out (by decide)
    have Hiz : Hid (∀ W, Fx W bF ys → Calls Try.prog 10 #[.slice (some ⟨bF, 5, none⟩) 5 5] W fun e w' => e = .returned (.bool zb) ∧ w' = W) := fun W h => by rw [← hzb]; exact isZero_any bF 5 5 5 ys W h (by omega) (by omega) Hsy.out
    clear hzb hne
    by_cases hgo : a = 39 ∨ (a ≠ 39 ∧ zb = false)
    · -- a digit more
      have hVz : a = 39 ∨ wv 4294967296 5 ys 5 ≠ 0 := by
        rcases hgo with h | h
        · exact .inl h
        · right
          intro h0
          have h1 := Hzi.out.2 h0
          rw [Hzb.out, h.2] at h1
          cases h1
      have ha1 : 1 ≤ a := by
        rcases Nat.eq_zero_or_pos a with h | h
        · subst h
          have h1 := HVy.out
          rcases hVz with h2 | h2
          · omega
          · simp at h1; omega
        · exact h
      obtain ⟨k, hak⟩ : ∃ k, a = k + 1 := ⟨a - 1, by omega⟩
      have hk39 : k < 39 := by omega
      have hki : (a : Int) - 1 = (k : Int) := by omega
      have HVy2 : Hid (wv 4294967296 5 ys 5 < 10 ^ (k + 1)) := by rw [← hak]; exact HVy
      have Hinv2 : Hid (DInv (k + 1) (wv 4294967296 5 ys 5) (wv 4294967296 5 xs 5) ds) := by rw [← hak]; exact Hinv
      have hVz2 : k + 1 = 39 ∨ wv 4294967296 5 ys 5 ≠ 0 := by rw [← hak]; exact hVz
      have hka : k < a := by omega
      generalize (ovF 4294967296 5 5 ys 0).2 = r at hr10 Hval Hov
      generalize (ovF 4294967296 5 5 ys 0).1 = zs at hol Hval Hov Hsm Hout
      have hzl1 : zs.length ≤ 10 := by omega
      have hzl2 : 10 ≤ zs.length := by omega
      have hvq : 10 * wv 4294967296 5 zs 5 + r = wv 4294967296 5 ys 5 := by have := Hval.out; omega
      have HVz : Hid (wv 4294967296 5 zs 5 < 10 ^ k) := by
        have h1 := HVy2.out
        rw [Nat.pow_succ] at h1
        show _ < _
        omega
      have Hinv' : Hid (DInv k (wv 4294967296 5 zs 5) (wv 4294967296 5 xs 5) (ds.set k (UInt8.ofNat (48 + r)))) := DInv.step Hinv2.out (by omega) hk39 hvq hr10 hVz2
      have Hfr' : Hid (∀ j, j < 5 → zs.getD j 0 = xs.getD j 0) := fun j hj => by rw [Hout.out j (.inl hj)]; exact Hfr.out j hj
      have hof := ofNat_toNat r hr10
      have hw8 : IntKind.u8.wrap (r : Int) = (r : Int) := by rw [IntKind.wrap_u8]; omega
      clear hol Hval hvq Hinv Hinv2 HVy HVy2 hVz hVz2 Hout hak
      rcases hgo with h39 | hzf
      · have hq39 : ((a : Int) == 39) = true := by simp; omega
        clear h39 Hiz
        go_wp2_with fail
        refine (whole_fx bF _ (by first | exact hbFr | (simp; omega))).mono ?_
        rintro e w4 ⟨rfl, rfl⟩
        go_wp2_with fail
        refine (Hov.out _ HF.out).mono ?_
        rintro e w4 ⟨rfl, hF4, hB4⟩
        have HD4 : Hid (Fb w4 bD ds) := HD.out.but hB4 (fun e => Hne.out e.symm)
        have gc := HD4.out.cell k (by omega)
        have gf := HD4.out.frozen k
        have HB4 : Hid (But2 W1 w4 bF bD) := HB.out.but hB4
        have HF4 : Hid (Fx w4 bF zs) := hF4
        clear hF4 hB4
        generalize ds[k] = c0 at gc
        go_wp2
        go_roundw
        case rel =>
          have e8 : Value.int IntKind.u8 (48 + (r : Int)) = .int .u8 ((UInt8.ofNat (48 + r)).toNat : Int) := by rw [hof]; congr 1
          first | rw [e8] | skip
          exact ⟨k, zs, ds.set k (UInt8.ofNat (48 + r)), rfl, by omega, HF4.out.setOther _ Hne.out _, hzl1, hzl2, Hsm, HD4.out.set k _, by rw [List.length_set]; exact hd1, by rw [List.length_set]; exact hd2, HB4.out.set _ _, HVz, Hfr', Hinv'⟩
        case measure => simp [intOf]; omega
      · have hq39 : ((a : Int) == 39) = false := by have := hzf.1; simp; omega
        obtain rfl : zb = false := hzf.2
        clear hzf
        go_wp2_with fail
        refine (whole_fx bF _ (by first | exact hbFr | (simp; omega))).mono ?_
        rintro e w4 ⟨rfl, rfl⟩
        go_wp2_with fail
        refine (Hiz.out _ HF.out).mono ?_
        rintro e w4 ⟨rfl, rfl⟩
        go_wp2_with fail
        refine (whole_fx bF _ (by first | exact hbFr | (simp; omega))).mono ?_
        rintro e w4 ⟨rfl, rfl⟩
        go_wp2_with fail
        refine (Hov.out _ HF.out).mono ?_
        rintro e w4 ⟨rfl, hF4, hB4⟩
        have HD4 : Hid (Fb w4 bD ds) := HD.out.but hB4 (fun e => Hne.out e.symm)
        have gc := HD4.out.cell k (by omega)
        have gf := HD4.out.frozen k
        have HB4 : Hid (But2 W1 w4 bF bD) := HB.out.but hB4
        have HF4 : Hid (Fx w4 bF zs) := hF4
        clear hF4 hB4
        generalize ds[k] = c0 at gc
        go_wp2
        go_roundw
        case rel =>
          have e8 : Value.int IntKind.u8 (48 + (r : Int)) = .int .u8 ((UInt8.ofNat (48 + r)).toNat : Int) := by rw [hof]; congr 1
          first | rw [e8] | skip
          exact ⟨k, zs, ds.set k (UInt8.ofNat (48 + r)), rfl, by omega, HF4.out.setOther _ Hne.out _, hzl1, hzl2, Hsm, HD4.out.set k _, by rw [List.length_set]; exact hd1, by rw [List.length_set]; exact hd2, HB4.out.set _ _, HVz, Hfr', Hinv'⟩
        case measure => simp [intOf]; omega
    · -- the end of the digits ahead of the dot
      have ha39 : ¬ a = 39 := fun h => hgo (.inl h)
      have hq39 : ((a : Int) == 39) = false := by simp; omega
      have hzt : zb = true := by
        cases zb
        · exact absurd (.inr ⟨ha39, rfl⟩) hgo
        · rfl
      subst hzt
      have hV0 : wv 4294967296 5 ys 5 = 0 := Hzi.out.1 Hzb.out
      have Htxt : Hid (ds.drop a = decT (wv 4294967296 5 xs 5)) := by
        have h := Hinv.out
        unfold DInv at h
        rw [if_neg ha39, hV0, dgF_zero, List.nil_append] at h
        exact h
      have hal : a < 39 := by omega
      obtain ⟨i0, hi, hz0, hz1, hz2⟩ := info_parts Try.infoB
      clear hgo hV0 Hov Hval hr10 Hsm hol Hout Hinv HVy
      go_wp2_with fail
      refine (whole_fx bF _ (by first | exact hbFr | (simp; omega))).mono ?_
      rintro e w4 ⟨rfl, rfl⟩
      go_wp2_with fail
      refine (Hiz.out _ HF.out).mono ?_
      rintro e w4 ⟨rfl, rfl⟩
      have hbase : B ≤ w4.heap.size := by rw [HB.out.2.2.2.1]; omega
      have HO4 : Hid (w4.ownsRow B 5 1 v0 n0 (pre.map Bv)) := own_but2 HO1.out HB.out HvF.out HvD.out
      have HR4 : Hid (Frm B bF w w4) := HR1.out.but2 HB.out hB0
      have hdl : (ds.drop a).length = 39 - a := by rw [List.length_drop]; omega
      have Hnews : Hid (∀ j u, ((ds.drop a).map Bv)[j]? = some u → w4.cell? ((⟨bD, a, none⟩ : Addr).add j) = some u) := by
        intro j u hu
        rw [List.getElem?_map] at hu
        have hj : j < (ds.drop a).length := by
          rcases Nat.lt_or_ge j (ds.drop a).length with h | h
          · exact h
          · rw [List.getElem?_eq_none h] at hu; simp at hu
        rw [List.getElem?_eq_getElem hj, List.getElem_drop] at hu
        have e : (⟨bD, a, none⟩ : Addr).add j = ⟨bD, a + j, none⟩ := by
          unfold Addr.add
          by_cases h0 : j = 0
          · subst h0; rfl
          · simp [h0]
        rw [e, HD.out.cell (a + j) (by omega)]
        simpa [Bv] using hu
      have Hone : Hid (∀ u ∈ (ds.drop a).map Bv, u.oneCell' = true) := by
        intro u hu
        obtain ⟨_, _, rfl⟩ := List.mem_map.1 hu
        rfl
      have hln : ((ds.drop a).map Bv).length = (39 - a) * 1 := by rw [List.length_map, hdl]; omega
      go_wp2_with fail
      rw [digits_slice bD a w4 hal]
      go_wp2_with (
        at_builtin
        refine wpList_append_own_wide _ rfl (.tmp 24) (.tmp 26) 25 rfl B 5 i0 (.int .u8 0) 1 1 Try.underlying25 hi hz0 hz1 hz2 rfl (by decide) v0 n0 (pre.map Bv) rfl HO4.out ⟨bD, a, none⟩ (39 - a) (39 - a) ((ds.drop a).map Bv) rfl hln Hnews.out Hone.out (by unfold maxLen; omega) (by omega) hbase ?_
        intro v1 w5 hown5 hgrow5 _)
      have hlen5 : Hid (n0 + (39 - a) = (pre ++ decT (wv 4294967296 5 xs 5)).length) := by show _ = _; rw [← Htxt.out, List.length_append, Hn0.out, hdl]
      rw [← List.map_append, Htxt.out, hlen5.out] at hown5
      have HO5 : Hid _ := hown5
      have hT1 : 0 < (pre ++ decT (wv 4294967296 5 xs 5)).length := by rw [← hlen5.out]; omega
      have hT40 : (pre ++ decT (wv 4294967296 5 xs 5)).length ≤ 40 := by rw [← hlen5.out]; omega
      have HF5 : Hid (Fx w5 bF ys) := by
        obtain ⟨t, ht⟩ := HF.out
        exact ⟨t, (hgrow5.block bF hbFr (fun e => HvF.out e.symm)).trans ht⟩
      have HR5 : Hid (Frm B bF w w5) := HR4.out.grown hgrow5 hbase HvB.out
      have hbF5 : bF < w5.heap.size := Nat.lt_of_lt_of_le hbFr hgrow5.size
      have hB5 : B ≤ w5.heap.size := Nat.le_trans hbase hgrow5.size
      have Hwv : Hid (wv 4294967296 0 ys 5 = wv 4294967296 0 xs 5) := wv_congr 4294967296 0 xs ys 5 (fun j hj => Hfr.out j (by omega))
      have Hzj : Hid _ := zeros_iff 4294967296 0 (by decide) ys 5 (by omega)
      obtain ⟨zc, hzc⟩ : ∃ zc, zeros ((ys.drop 0).take 5) = zc := ⟨_, rfl⟩
      have Hzc : Hid (zeros ((ys.drop 0).take 5) = zc) := hzc
      have Hjz : Hid (∀ W, Fx W bF ys → Calls Try.prog 10 #[.slice (some ⟨bF, 0, none⟩) 5 10] W fun e w' => e = .returned (.bool zc) ∧ w' = W) := fun W h => by rw [← hzc]; exact isZero_any bF 0 5 10 ys W h (by omega) (by omega) Hsy.out
      clear hown5 hgrow5 hln Hone Hnews hdl Hiz hzc Hfr HO4 HR4 hbase
      go_wp2_with fail
      refine (fraction_fx bF _ (by first | exact hbF5 | (simp; omega))).mono ?_
      rintro e w6 ⟨rfl, rfl⟩
      go_wp2_with fail
      refine (Hjz.out _ HF5.out).mono ?_
      rintro e w6 ⟨rfl, rfl⟩
      cases zc
      · -- a dot and digits behind it
        have hne0 : Hid (wv 4294967296 0 xs 5 ≠ 0) := fun h => by
          have h1 := Hzj.out.2 (Hwv.out.trans h)
          rw [Hzc.out] at h1
          cases h1
        obtain ⟨T1, hT1e⟩ : ∃ T1, T1 = pre ++ decT (wv 4294967296 5 xs 5) := ⟨_, rfl⟩
        obtain ⟨full, hfull⟩ : ∃ full, full = pre ++ spellT xs := ⟨_, rfl⟩
        have Hfe : Hid ((T1 ++ [46]) ++ frF (4294967296 ^ 5) 160 (wv 4294967296 0 ys 5) = full) := by
          show _ = _
          rw [hfull, hT1e, Hwv.out]
          unfold spellT
          rw [if_neg hne0.out]
          simp
        have hfl : full.length ≤ 250 := by
          rw [← Hfe.out, List.length_append, List.length_append]
          have := frF_len (4294967296 ^ 5) 160 (wv 4294967296 0 ys 5)
          rw [← hT1e] at hT40
          simp only [List.length_singleton]
          omega
        rw [← hT1e] at HO5 hT1 hT40
        have Hinv0 : Hid (FInv 160 (wv 4294967296 0 ys 5) (T1 ++ [46]) full) := ⟨Nat.le_refl _, by simp, wv_lt 4294967296 0 ys Hsy.out (by decide) 5 (by omega), Hfe.out⟩
        have Hfull : Hid (full = pre ++ spellT xs) := hfull
        have HvF5 : Hid (v1.ownBlock ≠ some bF) := own_ne HF5.out HO5.out hT1
        have HvB5 : Hid (∀ j, v1.ownBlock = some j → B ≤ j) := fun j e => (World.ownsRow.lt HO5.out j e).1
        have HOa : Hid (∀ o, (w6.alloc o).ownsRow B 5 1 v1 T1.length (T1.map Bv)) := fun o => World.ownsRow.alloc HO5.out o
        clear hfull hT1e hlen5
        go_wp2_with (
          at_builtin
          refine wpList_append_own_wide _ rfl (.tmp 32) (.tmp 33) 25 rfl B 5 i0 (.int .u8 0) 1 1 Try.underlying25 hi hz0 hz1 hz2 rfl (by decide) v1 T1.length (T1.map Bv) rfl (HOa.out _) ⟨w6.heap.size, 0, none⟩ 1 1 [.int .u8 46] rfl rfl (by intro t u ht; match t, ht with | 0, ht => simp at ht; subst ht; simp [Addr.add]) (by intro u hu; simp at hu; subst hu; rfl) (by unfold maxLen; omega) (by omega) (by simp; omega) ?_
          intro v2 w7 hown7 hgrow7 _)
        have HO7 : Hid (w7.ownsRow B 5 1 v2 (T1 ++ [46]).length ((T1 ++ [46]).map Bv)) := by
          rw [List.length_append, List.map_append]
          exact hown7
        have HF7 : Hid (Fx w7 bF ys) := by
          obtain ⟨t, ht⟩ := HF5.out
          exact ⟨t, (hgrow7.block bF (by rw [World.size_alloc]; omega) (fun e => HvF5.out e.symm)).trans ((Below.heap_alloc w6 _ bF hbF5).trans ht)⟩
        have HR7 : Hid (Frm B bF w w7) := (HR5.out.alloc hB5 _).grown hgrow7 (by rw [World.size_alloc]; omega) HvB5.out
        have hbF7 : bF < w7.heap.size := by have := hgrow7.size; rw [World.size_alloc] at this; omega
        have hB7 : B ≤ w7.heap.size := by have := hgrow7.size; rw [World.size_alloc] at this; omega
        clear hown7 hgrow7
        go_loopw [1] (fun s1 wr => ∃ (v : Value) (m : Nat) (zs : List Nat) (T : List UInt8), s1 = v ∧ Hid (wr.ownsRow B 5 1 v T.length (T.map Bv)) ∧ Hid (Fx wr bF zs) ∧ zs.length ≤ 10 ∧ 10 ≤ zs.length ∧ Hid (smallL zs) ∧ Hid (Frm B bF w wr) ∧ bF < wr.heap.size ∧ B ≤ wr.heap.size ∧ 0 < T.length ∧ Hid (FInv m (wv 4294967296 0 zs 5) T full)) (fun s _ => full.length - lenV s)
        case atStart => exact ⟨v2, 160, ys, T1 ++ [46], rfl, HO7, HF7, hy1, hy2, Hsy, HR7, hbF7, hB7, by simp, Hinv0⟩
        case round =>
          obtain ⟨v, m, zs, T, hv1, HO, HZ, hz3, hz4, Hsz, HR, hbr, hBr, hTp, HI⟩ := hrel
          have hv2 := hv1.symm
          clear hv1
          subst hv2
          have Hzk : Hid _ := zeros_iff 4294967296 0 (by decide) zs 5 (by omega)
          obtain ⟨zd, hzd⟩ : ∃ zd, zeros ((zs.drop 0).take 5) = zd := ⟨_, rfl⟩
          have Hzd : Hid (zeros ((zs.drop 0).take 5) = zd) := hzd
          have Hkz : Hid (∀ W, Fx W bF zs → Calls Try.prog 10 #[.slice (some ⟨bF, 0, none⟩) 5 10] W fun e w' => e = .returned (.bool zd) ∧ w' = W) := fun W h => by rw [← hzd]; exact isZero_any bF 0 5 10 zs W h (by omega) (by omega) Hsz.out
          have Htm : Hid (∀ W, Fx W bF zs → Calls Try.prog 14 #[.slice (some ⟨bF, 0, none⟩) 5 10, .int .u32 0] W fun e w' => e = .returned (.int .u32 ((tmF 4294967296 0 0 5 zs 0).2 : Int)) ∧ Fx w' bF (tmF 4294967296 0 0 5 zs 0).1 ∧ But W w' bF) := fun W h => timesTen_any bF 0 5 10 0 zs W h (by omega) (by omega) Hsz.out (by decide)
          have hval := tmF_val 4294967296 0 (by decide) 5 0 zs 0 (by omega)
          have hlen := tmF_len 4294967296 0 5 0 zs 0
          have Hsm2 : Hid _ := tmF_small 0 5 0 zs 0 Hsz.out
          generalize (tmF 4294967296 0 0 5 zs 0).2 = r at hval Htm
          generalize (tmF 4294967296 0 0 5 zs 0).1 = us at hval Htm hlen Hsm2
          have hval2 : wv 4294967296 0 us 5 + r * 4294967296 ^ 5 = 10 * wv 4294967296 0 zs 5 := by
            rw [show 0 + 5 = 5 from rfl] at hval
            have e0 : wv 4294967296 0 zs 0 = 0 := rfl
            rw [e0] at hval
            omega
          have hult : wv 4294967296 0 us 5 < 4294967296 ^ 5 := wv_lt 4294967296 0 us Hsm2.out (by decide) 5 (by omega)
          have HvF6 : Hid (v.ownBlock ≠ some bF) := own_ne HZ.out HO.out hTp
          have HvB6 : Hid (∀ j, v.ownBlock = some j → B ≤ j) := fun j e => (World.ownsRow.lt HO.out j e).1
          have hlv : lenV v = T.length := own_len HO.out
          have hu1 : us.length ≤ 10 := by omega
          have hu2 : 10 ≤ us.length := by omega
          clear hzd hlen hval
          go_wp2_with fail
          refine (fraction_fx bF _ (by first | exact hbr | (simp; omega))).mono ?_
          rintro e w8 ⟨rfl, rfl⟩
          go_wp2_with fail
          refine (Hkz.out _ HZ.out).mono ?_
          rintro e w8 ⟨rfl, rfl⟩
          cases zd
          · have hf0 : wv 4294967296 0 zs 5 ≠ 0 := fun h => by
              have h1 := Hzk.out.2 h
              rw [Hzd.out] at h1
              cases h1
            obtain ⟨k, hmk, hr10, hI2⟩ := FInv.step HI.out hf0 hval2 hult
            have HI2 : Hid _ := hI2
            have hTl : T.length + 1 ≤ full.length := by
              rw [← hI2.2.2.2, List.length_append, List.length_append, List.length_singleton]
              omega
            have hof := ofNat_toNat r hr10
            have hw8 : IntKind.u8.wrap (r : Int) = (r : Int) := by rw [IntKind.wrap_u8]; omega
            clear hI2 hval2 hult hf0 HI
            go_wp2_with fail
            refine (fraction_fx bF _ (by first | exact hbr | (simp; omega))).mono ?_
            rintro e w9 ⟨rfl, rfl⟩
            go_wp2_with fail
            refine (Htm.out _ HZ.out).mono ?_
            rintro e w9 ⟨rfl, hF9, hB9⟩
            have HF9 : Hid (Fx w9 bF us) := hF9
            have HO9 : Hid (∀ o, (w9.alloc o).ownsRow B 5 1 v T.length (T.map Bv)) := fun o => World.ownsRow.alloc (own_but HO.out hB9 HvF6.out) o
            have HR9 : Hid (Frm B bF w w9) := HR.out.but hB9
            have hb9 : bF < w9.heap.size := by rw [hB9.2.2.2.1]; exact hbr
            have hB99 : B ≤ w9.heap.size := by rw [hB9.2.2.2.1]; exact hBr
            clear hF9 hB9
            go_wp2_with (
              at_builtin
              refine wpList_append_own_wide _ rfl (.tmp 39) (.tmp 45) 25 rfl B 5 i0 (.int .u8 0) 1 1 Try.underlying25 hi hz0 hz1 hz2 rfl (by decide) v T.length (T.map Bv) rfl (HO9.out _) ⟨w9.heap.size, 0, none⟩ 1 1 [Bv (UInt8.ofNat (48 + r))] rfl rfl (by intro t u ht; match t, ht with | 0, ht => (simp at ht; subst ht; simp [Addr.add, Bv]; omega)) (by intro u hu; simp at hu; subst hu; rfl) (by unfold maxLen; omega) (by omega) (by simp; omega) ?_
              intro v3 w10 hown10 hgrow10 _)
            have HO10 : Hid (w10.ownsRow B 5 1 v3 (T ++ [UInt8.ofNat (48 + r)]).length ((T ++ [UInt8.ofNat (48 + r)]).map Bv)) := by
              rw [List.length_append, List.map_append]
              exact hown10
            have HF10 : Hid (Fx w10 bF us) := by
              obtain ⟨t, ht⟩ := HF9.out
              exact ⟨t, (hgrow10.block bF (by rw [World.size_alloc]; omega) (fun e => HvF6.out e.symm)).trans ((Below.heap_alloc w9 _ bF hb9).trans ht)⟩
            have HR10 : Hid (Frm B bF w w10) := (HR9.out.alloc hB99 _).grown hgrow10 (by rw [World.size_alloc]; omega) HvB6.out
            have hs10 := hgrow10.size
            rw [World.size_alloc] at hs10
            have hl10 : lenV v3 = T.length + 1 := own_len hown10
            exact ⟨⟨v3, k, us, T ++ [UInt8.ofNat (48 + r)], rfl, HO10, HF10, hu1, hu2, Hsm2, HR10, by omega, by omega, by simp, HI2⟩, by rw [hl10, hlv]; omega⟩
          · have hfz : wv 4294967296 0 zs 5 = 0 := Hzk.out.1 Hzd.out
            have Hst : Hid (T = pre ++ spellT xs) := (FInv.stop HI.out hfz).trans Hfull.out
            go_wp2
            go_ret
            rw [← Hst.out]
            exact ⟨_, rfl, HO.out, HR.out⟩
      · have h00 : wv 4294967296 0 xs 5 = 0 := Hwv.out.symm.trans (Hzj.out.1 Hzc.out)
        have Hsp : Hid (pre ++ spellT xs = pre ++ decT (wv 4294967296 5 xs 5)) := by show _ = _; unfold spellT; rw [if_pos h00, List.append_nil]
        go_wp2
        go_ret
        rw [Hsp.out]
        exact ⟨_, rfl, HO5.out, HR5.out⟩

end Go.Proofs.Ytgkbbcoagnilgaa
