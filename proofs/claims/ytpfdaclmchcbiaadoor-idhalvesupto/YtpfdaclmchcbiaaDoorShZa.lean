import Derived.Test.YtpfdaclmchcbiaaDoorShSSum
import Derived.Lib.SlBytesConst
import Derived.Deep.DeepAppendWide
import Derived.OwnWalk
namespace Go.Proofs.YtpfdaclmchcbiaaDoor.Sha
open Go.RowKit
set_option maxRecDepth 100000

/-- What stands at the head of a block of bytes can be read. -/
theorem cl_head {w : World} {g : Nat} {l r : List UInt8} (h : Cl w g ((l ++ r).map B)) : Rd w (some ⟨g, 0, none⟩) l := by
  refine .inr ⟨g, 0, rfl, h.lt, fun j hj => ?_⟩
  rw [Nat.zero_add, h.cell j (by simp; omega), List.getElem_map, List.getElem_append_left hj, List.getD_eq_getElem?_getD, List.getElem?_eq_getElem hj]
  rfl

/-- copy of bytes that can be read, to the head of a block of one's own. -/
theorem copy_head (w : World) (g N c : Nat) (ao : Option Addr) (l r : List UInt8) (hcl : Cl w g (r.map B)) (hr : r.length = N) (hrd : Rd w ao l) (hlr : l.length ≤ N) :
    ∃ w1, (∀ q, (Builtin.copy_ #[29, 29] 3 #[.slice (some ⟨g, 0, none⟩) N N, .slice ao l.length c]).run Tryd.prog (w.drewN q) = .ok (goInt l.length) (w1.drewN q)) ∧ Cl w1 g ((l ++ r.drop l.length).map B) ∧ But w w1 g := by
  have hmin : Nat.min l.length N = l.length := Nat.min_eq_left hlr
  by_cases h0 : l = []
  · subst h0
    exact ⟨w, fun q => run_copy_none (w.drewN q) 29 29 3 5 _ _ _ _ _ _ Tryd.underlying29 (by kernel_rfl) hmin, by simpa using hcl, But.refl _ _⟩
  · rcases hrd with h1 | ⟨b, off, rfl, hb, hc⟩
    · exact absurd h1 h0
    · refine ⟨w.setCells g 0 (l.map B), fun q => ?_, ?_, But.cells _ _ _ _ (But.refl _ _)⟩
      · have h1 := run_copy_cells (P := Tryd.prog) (w.drewN q) 29 29 3 5 g 0 N N ⟨b, off, none⟩ l.length c (l.map B) Tryd.underlying29 (by kernel_rfl) (by rw [List.length_map]; exact hmin.symm) (fun j v hj => by
            obtain ⟨hj1, hj2⟩ := List.getElem?_eq_some_iff.1 hj
            have hj3 : j < l.length := by simpa using hj1
            rw [Addr.add_mid]
            show w.cell? _ = _
            rw [hc j hj3, ← hj2, List.getElem_map, List.getD_eq_getElem?_getD, List.getElem?_eq_getElem hj3]
            rfl) (fun j hj => by
            rw [List.length_map] at hj
            show (w.cell? _).isSome = true
            rw [hcl.cell (0 + j) (by rw [List.length_map]; omega)]
            rfl) (fun j _ => hcl.frozen _) (oneB l)
        rw [List.length_map, setCells_drewN] at h1
        exact h1
      · have h1 := Cl.cells (l.map B) 0 w _ hcl (by rw [List.length_map, List.length_map]; omega)
        unfold spl at h1
        rw [List.take_zero, List.nil_append, List.length_map, Nat.zero_add, ← List.map_drop, ← List.map_append] at h1
        exact h1

theorem take_iff {l1 l2 : List UInt8} {k : Nat} (h1 : k < l1.length) (h2 : k < l2.length) (h : l1.take k = l2.take k) : l1[k] = l2[k] ↔ l1.take (k + 1) = l2.take (k + 1) := by
  rw [List.take_succ_eq_append_getElem h1, List.take_succ_eq_append_getElem h2, h]
  constructor
  · intro e; rw [e]
  · intro e
    have := List.append_cancel_left e
    exact (List.cons.inj this).1

theorem ne_byte (x y : UInt8) : ((x.toNat : Int) != (y.toNat : Int)) = !decide (x = y) := by
  by_cases h : x = y
  · subst h; simp
  · have : x.toNat ≠ y.toNat := fun e => h (UInt8.toNat_inj.1 e)
    simp [h]; omega

/-- The place that a number picks among n. -/
def pk (x : Int) (n : Nat) : Nat := (x % (n : Int)).toNat
theorem pk_lt (x : Int) (n : Nat) (hn : 0 < n) : pk x n < n := by
  unfold pk
  have h1 := Int.emod_nonneg x (b := (n : Int)) (by omega)
  have h2 := Int.emod_lt_of_pos x (b := (n : Int)) (by omega)
  omega

end Go.Proofs.YtpfdaclmchcbiaaDoor.Sha
namespace Go.Proofs.YtpfdaclmchcbiaaDoor.Sha
open Go.RowKit
set_option maxRecDepth 100000


set_option maxRecDepth 100000 in
theorem abc_1 : sumF 1 [97, 98, 99] = [186, 120, 22, 191, 143, 1, 207, 234, 65, 65, 64, 222, 93, 174, 34, 35, 176, 3, 97, 163, 150, 23, 122, 156, 180, 16, 255, 97, 242, 0, 21, 173] := by decide +kernel
set_option maxRecDepth 100000 in
theorem abc_2 : sumF 2 [97, 98, 99] = [203, 0, 117, 63, 69, 163, 94, 139, 181, 160, 61, 105, 154, 198, 80, 7, 39, 44, 50, 171, 14, 222, 209, 99, 26, 139, 96, 90, 67, 255, 91, 237, 128, 134, 7, 43, 161, 231, 204, 35, 88, 186, 236, 161, 52, 200, 37, 167] := by decide +kernel
set_option maxRecDepth 100000 in
theorem abc_3 : sumF 3 [97, 98, 99] = [221, 175, 53, 161, 147, 97, 122, 186, 204, 65, 115, 73, 174, 32, 65, 49, 18, 230, 250, 78, 137, 169, 126, 162, 10, 158, 238, 230, 75, 85, 211, 154, 33, 146, 153, 42, 39, 79, 193, 168, 54, 186, 60, 35, 163, 254, 235, 189, 69, 77, 68, 35, 100, 60, 232, 14, 42, 154, 201, 79, 165, 76, 164, 159] := by decide +kernel

end Go.Proofs.YtpfdaclmchcbiaaDoor.Sha
namespace Go.Proofs.YtpfdaclmchcbiaaDoor.Sha
open Go.RowKit
set_option maxRecDepth 100000

theorem alloc_last (w : World) (o : Obj) : (w.alloc o).heap[w.heap.size]? = some o := by unfold World.alloc; simp
theorem alloc_size (w : World) (o : Obj) : (w.alloc o).heap.size = w.heap.size + 1 := by unfold World.alloc; simp

/-- A list of one part, both new. -/
theorem abc_pts (w : World) (t1 t2 : TypeId) (W : World) (hW : W = (w.alloc (.cells #[.int .u8 97, .int .u8 98, .int .u8 99] t1 (3, 4))).alloc (.cells #[.slice (some ⟨w.heap.size, 0, none⟩) 3 3] t2)) :
    Below w.heap.size w W ∧ Pts W (some ⟨w.heap.size + 1, 0, none⟩) [⟨some ⟨w.heap.size, 0, none⟩, 3, [97, 98, 99]⟩] := by
  obtain ⟨w1, hw1⟩ : ∃ w1, w1 = w.alloc (.cells #[.int .u8 97, .int .u8 98, .int .u8 99] t1 (3, 4)) := ⟨_, rfl⟩
  rw [← hw1] at hW
  have h1 : Below w.heap.size w w1 := by rw [hw1]; exact alloc_below _ _
  have h2 : Below w1.heap.size w1 W := by rw [hW]; exact alloc_below _ _
  have e1 : w1.heap.size = w.heap.size + 1 := by rw [hw1]; exact alloc_size _ _
  have a1 : W.heap[w.heap.size]? = some (.cells #[.int .u8 97, .int .u8 98, .int .u8 99] t1 (3, 4)) := by
    rw [h2.block _ (by omega), hw1]
    exact alloc_last _ _
  have a2 : W.heap[w.heap.size + 1]? = some (.cells #[.slice (some ⟨w.heap.size, 0, none⟩) 3 3] t2) := by
    rw [← e1, hW]
    exact alloc_last _ _
  refine ⟨h1.trans (h2.mono (by omega)), .inr ⟨_, 0, rfl, fun j hj => ?_⟩, fun p hp => ?_⟩
  · have : j = 0 := by simpa using hj
    subst this
    unfold World.cell?
    simp [a2, prV]
  · obtain rfl := List.mem_singleton.1 hp
    refine ⟨.inr ⟨w.heap.size, 0, rfl, (Array.getElem?_eq_some_iff.1 a1).1, fun j hj => ?_⟩, by simp, by simp⟩
    have hj2 : j = 0 ∨ j = 1 ∨ j = 2 := by have : j < 3 := by simpa using hj
                                           omega
    unfold World.cell?
    rcases hj2 with rfl | rfl | rfl <;> simp [a1, B]

theorem own_cell {w : World} {B0 : Nat} {a : Option Addr} {l : List UInt8} (h : Own w B0 a l) (hl : 0 < l.length) : ∃ g, a = some ⟨g, 0, none⟩ ∧ B0 ≤ g ∧ Cl w g (l.map B) := by
  rcases h with ⟨_, h⟩ | h
  · subst h; simp at hl
  · obtain ⟨g, e, hg, hc⟩ := h
    exact ⟨g, e, hg, hc.cl⟩
theorem own_bl {w : World} {B0 : Nat} {a : Option Addr} {l : List UInt8} (h : Own w B0 a l) (hl : 0 < l.length) : ∃ g, a = some ⟨g, 0, none⟩ ∧ B0 ≤ g ∧ Bl 5 w g (l.map B) := by
  rcases h with ⟨_, h⟩ | h
  · subst h; simp at hl
  · exact h

end Go.Proofs.YtpfdaclmchcbiaaDoor.Sha
namespace Go.Proofs.YtpfdaclmchcbiaaDoor.Sha
open Go.RowKit
set_option maxRecDepth 100000

theorem infoBs : (Tryd.prog.info? 29).map (fun i => (i.zero, i.size, i.bytes)) = some (some (.slice none 0 0), 1, 24) := by kernel_rfl

theorem own_below {w w' : World} {base n k : Nat} {e : TypeId} {v : Value} {xs : List Value} (h : w.ownsRow base e 1 v n xs) (hb : Below k w w') (hk : w.heap.size ≤ k) : w'.ownsRow base e 1 v n xs := by
  refine ⟨h.1, ?_⟩
  rcases h.2 with h0 | ⟨g, cap, cur, e, hg, hh, r⟩
  · exact .inl h0
  · exact .inr ⟨g, cap, cur, e, hg, by rw [hb.block g (Nat.lt_of_lt_of_le (Array.getElem?_eq_some_iff.1 hh).1 hk)]; exact hh, r⟩
theorem own_but {w w' : World} {base n b : Nat} {e : TypeId} {v : Value} {xs : List Value} (h : w.ownsRow base e 1 v n xs) (hb : But w w' b) (hk : b < base) : w'.ownsRow base e 1 v n xs := by
  refine ⟨h.1, ?_⟩
  rcases h.2 with h0 | ⟨g, cap, cur, e, hg, hh, r⟩
  · exact .inl h0
  · exact .inr ⟨g, cap, cur, e, hg, by rw [hb.block g (Array.getElem?_eq_some_iff.1 hh).1 (by omega)]; exact hh, r⟩
theorem own_drewN {w : World} {base n : Nat} {e : TypeId} {v : Value} {xs : List Value} (h : w.ownsRow base e 1 v n xs) (q : Nat) : (w.drewN q).ownsRow base e 1 v n xs := h
theorem own_block {w : World} {base n : Nat} {e : TypeId} {v : Value} {xs : List Value} (h : w.ownsRow base e 1 v n xs) : ∀ k, v.ownBlock = some k → base ≤ k := by
  intro k hk
  rcases h.2 with ⟨rfl, _⟩ | ⟨g, cap, cur, rfl, hg, _⟩
  · cases hk
  · cases hk; exact hg
/-- The parts that a row of one's own holds. -/
theorem own_pts {w : World} {base : Nat} {v : Value} {ps : List Prt} (h : w.ownsRow base 29 1 v ps.length (ps.map prV)) (hp : ∀ p ∈ ps, prOk w p) : ∃ pa pc, v = .slice pa ps.length pc ∧ Pts w pa ps := by
  rcases h.2 with ⟨rfl, hn⟩ | ⟨g, cap, cur, rfl, hg, hh, hn, hm, hs, ht⟩
  · obtain rfl := List.eq_nil_of_length_eq_zero hn
    exact ⟨none, 0, rfl, .inl rfl, hp⟩
  · refine ⟨_, cap, rfl, .inr ⟨g, 0, rfl, fun j hj => ?_⟩, hp⟩
    have h1 := h.cells (g := g) rfl j (prV ps[j]) (by simp [hj])
    rw [Addr.add_mid] at h1
    exact h1

/-- A slice of bytes cut at its end. -/
theorem slice_high (a : Option Addr) (n cap k : Nat) (W : World) (h1 : k ≤ cap) : (Instr.sliceAt 29 (.slice a n cap) none (some (.int .i64 (k : Int))) none).run Tryd.prog W = .ok (.slice a k cap) W := by
  have e0 : Tryd.prog.elem 29 = 5 := by kernel_rfl
  have e2 := run_size1 (P := Tryd.prog) (e := 5) (by kernel_rfl)
  rw [run_sliceAt_slice _ _ _ _ _ _ Tryd.underlying29, run_slice_h W 29 a n cap Tryd.underlying29 .i64 (k : Int) (by omega) (by omega), e0, e2]
  show Result.ok (sliced _ _ _ _ 1) W = _
  unfold sliced
  simp only [Int.toNat_natCast, Nat.zero_mul, Nat.sub_zero]
  congr 2
  split
  · rfl
  · cases a with
    | none => rfl
    | some x => simp [Addr.add]

/-- A slice of bytes cut from its head, wherever it lies. -/
theorem slice_low' (a : Option Addr) (len cap n : Nat) (h1 : n ≤ len) (h2 : len ≤ cap) : ∃ a2, (∀ W, (Instr.sliceAt 29 (.slice a len cap) (some (.int .i64 (n : Int))) none none).run Tryd.prog W = .ok (.slice a2 (len - n) (cap - n)) W) ∧ (∀ g o, a = some ⟨g, o, none⟩ → n < len → a2 = some ⟨g, o + n, none⟩) := by
  have e0 : Tryd.prog.elem 29 = 5 := by kernel_rfl
  have e2 := run_size1 (P := Tryd.prog) (e := 5) (by kernel_rfl)
  refine ⟨if cap = n then a else a.map (·.add n), fun W => ?_, fun g o e hn => ?_⟩
  · rw [run_sliceAt_slice _ _ _ _ _ _ Tryd.underlying29, run_slice_l W 29 a len cap Tryd.underlying29 .i64 (n : Int) (by omega) (by omega), e0, e2]
    show Result.ok (sliced _ _ _ _ 1) W = _
    unfold sliced
    simp only [Int.toNat_natCast, Nat.mul_one]
  · rw [if_neg (by omega), e]
    simp [Addr.add_mid]

end Go.Proofs.YtpfdaclmchcbiaaDoor.Sha
namespace Go.Proofs.YtpfdaclmchcbiaaDoor.Sha
open Go.RowKit
set_option maxRecDepth 100000

theorem i64_xor_nat (a b : Nat) (ha : a < 9223372036854775808) (hb : b < 9223372036854775808) : bits .xor .i64 (a : Int) (b : Int) = ((a ^^^ b : Nat) : Int) := by
  have hx : a ^^^ b < 2 ^ 63 := Nat.xor_lt_two_pow (by omega) (by omega)
  show IntKind.i64.wrap ((BitVec.ofInt 64 (a : Int) ^^^ BitVec.ofInt 64 (b : Int)).toNat : Int) = _
  rw [BitVec.toNat_xor, ofInt_u64 a (by omega), ofInt_u64 b (by omega), IntKind.wrap_i64]
  omega
theorem i64_or_nat (a b : Nat) (ha : a < 9223372036854775808) (hb : b < 9223372036854775808) : bits .or .i64 (a : Int) (b : Int) = ((a ||| b : Nat) : Int) := by
  have hx : a ||| b < 2 ^ 63 := Nat.or_lt_two_pow (by omega) (by omega)
  show IntKind.i64.wrap ((BitVec.ofInt 64 (a : Int) ||| BitVec.ofInt 64 (b : Int)).toNat : Int) = _
  rw [BitVec.toNat_or, ofInt_u64 a (by omega), ofInt_u64 b (by omega), IntKind.wrap_i64]
  omega

theorem xor_zero_iff (a b : Nat) : a ^^^ b = 0 ↔ a = b := by
  constructor
  · intro h
    have h1 : (a ^^^ b) ^^^ b = a := by rw [Nat.xor_assoc, Nat.xor_self, Nat.xor_zero]
    rw [h, Nat.zero_xor] at h1
    exact h1.symm
  · intro h; rw [h, Nat.xor_self]
theorem or_zero_iff (a b : Nat) : a ||| b = 0 ↔ a = 0 ∧ b = 0 := by
  constructor
  · intro h
    exact ⟨by have := Nat.left_le_or (n := a) (m := b); omega, by have := Nat.right_le_or (n := a) (m := b); omega⟩
  · rintro ⟨h1, h2⟩; rw [h1, h2]; rfl

/-- Two lists are one. -/
theorem list_eq_iff (l1 l2 : List UInt8) (M : Nat) (h1 : l1.length ≤ M) : (l1.length = l2.length ∧ ∀ j, j < M → l1.getD j 0 = l2.getD j 0) ↔ l1 = l2 := by
  constructor
  · rintro ⟨hl, h⟩
    apply List.ext_getElem hl
    intro j hj1 hj2
    have := h j (by omega)
    rw [List.getD_eq_getElem?_getD, List.getD_eq_getElem?_getD, List.getElem?_eq_getElem hj1, List.getElem?_eq_getElem hj2] at this
    exact this
  · rintro rfl; exact ⟨rfl, fun _ _ => rfl⟩

/-- The filled key. -/
def keyF (h : Int) (key : List UInt8) : List UInt8 := if blk h < key.length then sumF h key else key
def filF (h : Int) (key : List UInt8) : List UInt8 := (List.range (blk h)).map fun i => (keyF h key).getD i 0
theorem filF_length (h : Int) (key : List UInt8) : (filF h key).length = blk h := by simp [filF]
/-- Each byte xor the mask. -/
def mskF (x : UInt8) (l : List UInt8) : List UInt8 := l.map fun c => c ^^^ x
theorem mskF_length (x : UInt8) (l : List UInt8) : (mskF x l).length = l.length := by simp [mskF]
/-- The tag. -/
def tagF (h : Int) (key data : List UInt8) : List UInt8 := sumF h (mskF 92 (filF h key) ++ sumF h (mskF 54 (filF h key) ++ data))
theorem tagF_length (h : Int) (key data : List UInt8) : (tagF h key data).length = siz h := sumF_length _ _
theorem tagF_not {h : Int} (hh : ¬ isH h) (key data : List UInt8) : tagF h key data = [] := (siz_not hh _).2

/-- A byte xor another. -/
theorem xorB (x y : UInt8) : bits .xor .u8 (x.toNat : Int) (y.toNat : Int) = ((x ^^^ y).toNat : Int) := by
  rw [u8_xor_nat x.toNat y.toNat x.toNat_lt y.toNat_lt, UInt8.toNat_xor]
/-- A list with one more of its bytes made. -/
theorem made_set (f : Nat → UInt8) (n k : Nat) (v : UInt8) (hk : k < n) (hv : v = f k) :
    (((List.range k).map f ++ List.replicate (n - k) 0).map B).set k (B v) = (((List.range (k + 1)).map f ++ List.replicate (n - (k + 1)) 0).map B) := by
  subst hv
  rw [← List.map_set, List.set_append_right _ _ (by simp), List.length_map, List.length_range, Nat.sub_self, show n - k = (n - (k + 1)) + 1 by omega, List.replicate_succ, List.set_cons_zero, List.range_succ, List.map_append]
  simp
theorem filF_eq (h : Int) (key : List UInt8) : (List.range (blk h)).map (fun i => (keyF h key).getD i 0) = filF h key := rfl
theorem mskF_eq (x : UInt8) (l : List UInt8) : (List.range l.length).map (fun i => l.getD i 0 ^^^ x) = mskF x l := by
  apply List.ext_getElem
  · simp [mskF]
  · intro j h1 h2
    have hj : j < l.length := by simpa using h1
    simp [mskF, List.getElem?_eq_getElem hj]
theorem xor_zero_byte (x y : UInt8) : x ^^^ y = 0 ↔ x = y := by
  constructor
  · intro h
    have h1 : (x ^^^ y) ^^^ y = x := by rw [UInt8.xor_assoc, UInt8.xor_self, UInt8.xor_zero]
    rw [h, UInt8.zero_xor] at h1
    exact h1.symm
  · intro h; rw [h, UInt8.xor_self]

end Go.Proofs.YtpfdaclmchcbiaaDoor.Sha
namespace Go.Proofs.YtpfdaclmchcbiaaDoor.Sha
open Go.RowKit
set_option maxRecDepth 100000

theorem prOk.below {w w' : World} {p : Prt} {n : Nat} (h : prOk w p) (hb : Below n w w') (hn : w.heap.size ≤ n) : prOk w' p := ⟨h.1.below hb hn, h.2⟩
/-- A list of one part, of two, new. -/
theorem pts1 (w : World) (t : TypeId) (p : Prt) (h : prOk w p) : Pts (w.alloc (.cells #[prV p] t)) (some ⟨w.heap.size, 0, none⟩) [p] := by
  have hb := alloc_below w (.cells #[prV p] t)
  have a1 := alloc_last w (.cells #[prV p] t)
  refine ⟨.inr ⟨_, 0, rfl, fun j hj => ?_⟩, fun q hq => ?_⟩
  · have : j = 0 := by simpa using hj
    subst this
    generalize w.alloc _ = W at a1 ⊢
    unfold World.cell?
    simp [a1]
  · obtain rfl := List.mem_singleton.1 hq
    exact h.below hb (Nat.le_refl _)
theorem pts2 (w : World) (t : TypeId) (p1 p2 : Prt) (h1 : prOk w p1) (h2 : prOk w p2) : Pts (w.alloc (.cells #[prV p1, prV p2] t)) (some ⟨w.heap.size, 0, none⟩) [p1, p2] := by
  have hb := alloc_below w (.cells #[prV p1, prV p2] t)
  have a1 := alloc_last w (.cells #[prV p1, prV p2] t)
  refine ⟨.inr ⟨_, 0, rfl, fun j hj => ?_⟩, fun q hq => ?_⟩
  · have hj2 : j = 0 ∨ j = 1 := by have : j < 2 := by simpa using hj
                                   omega
    generalize w.alloc _ = W at a1 ⊢
    rcases hj2 with rfl | rfl <;> (unfold World.cell?; simp [a1])
  · rcases List.mem_cons.1 hq with rfl | hq
    · exact h1.below hb (Nat.le_refl _)
    · obtain rfl := List.mem_singleton.1 hq
      exact h2.below hb (Nat.le_refl _)
theorem cat1 (p : Prt) : cat [p] = p.l := by simp [cat]
theorem cat2 (p q : Prt) : cat [p, q] = p.l ++ q.l := by simp [cat]
theorem blk_le (h : Int) : blk h ≤ 128 := by unfold blk; (repeat' split) <;> omega
theorem siz_le (h : Int) : siz h ≤ 64 := by unfold siz; (repeat' split) <;> omega

end Go.Proofs.YtpfdaclmchcbiaaDoor.Sha