import Derived.Test.YtkaiecpdkieedaaGreatDoorHZ
import Derived.Test.YtkaiecpdkieedaaGreatDoorBase
import Derived.Test.YtkaiecpdkieedaaGreatDoorSZ
namespace Go.Proofs.YtkaiecpdkieedaaGreatDoor
open Go.RowKit

/-- Texts that can be read. -/
structure TR (w : World) (v : Value) (l : List (List UInt8)) (ao : Option Addr) (cap : Nat) : Prop where
  val : v = .slice ao l.length cap
  cap : l.length ≤ cap
  cell : l = [] ∨ ∃ g off : Nat, ao = some ⟨g, off, none⟩ ∧ g < w.heap.size ∧ ∀ j, j < l.length → w.cell? ⟨g, off + j, none⟩ = some (.string ⟨(l.getD j []).toArray⟩)
theorem TR.at {w : World} {v : Value} {l : List (List UInt8)} {ao : Option Addr} {cap : Nat} (h : TR w v l ao cap) {j : Nat} (hj : j < l.length) : ∃ g off : Nat, ao = some ⟨g, off, none⟩ ∧ w.cell? ⟨g, off + j, none⟩ = some (.string ⟨(l.getD j []).toArray⟩) := by
  rcases h.cell with h0 | ⟨g, off, e, _, hc⟩
  · subst h0; simp at hj
  · exact ⟨g, off, e, hc j hj⟩
theorem TR.below {w w' : World} {v : Value} {l : List (List UInt8)} {ao : Option Addr} {cap n : Nat} (h : TR w v l ao cap) (hb : Below n w w') (hn : w.heap.size ≤ n) : TR w' v l ao cap := by
  refine ⟨h.val, h.cap, ?_⟩
  rcases h.cell with h0 | ⟨g, off, e, hg, hc⟩
  · exact .inl h0
  · exact .inr ⟨g, off, e, Nat.lt_of_lt_of_le hg hb.size, fun j hj => cell_but (hc j hj) fun _ => hb.block g (by omega)⟩

theorem Alg.lt {w : World} (h : Alg w) : 0 < w.heap.size := World.block_lt_of_cell? w _ (alg_cell h (k := 0) (by decide)).1
theorem Alg.bel {w w' : World} {B : Nat} (h : Alg w) (hb : Below B w w') (hB : w.heap.size ≤ B) : Alg w' := h.below hb (Nat.lt_of_lt_of_le h.lt hB)

/-- A header as a value; a policy. -/
def hdV (h : Hd) : Value := .agg #[.int .i64 h.alg, .string ⟨h.kid.toArray⟩, .string ⟨h.typ.toArray⟩, .bool h.has]
def plV (a : Value) (iss : ByteArray) (hi : Bool) (aud : ByteArray) (ha : Bool) (ty : List UInt8) (wt : Bool) (lee : Int) (need : Value) : Value := .agg #[a, .string iss, .bool hi, .string aud, .bool ha, .string ⟨ty.toArray⟩, .bool wt, .int .i64 lee, need]

end Go.Proofs.YtkaiecpdkieedaaGreatDoor

namespace Go.Proofs.YtkaiecpdkieedaaGreatDoor
open Go.RowKit

/-- The cells of a header that is being read. -/
def hsC (s : Hs) : List Value := [.int .i64 s.h.alg, .string ⟨s.h.kid.toArray⟩, .string ⟨s.h.typ.toArray⟩, .bool s.h.has, .bool s.a, .bool s.k]

set_option maxRecDepth 100000 in
set_option maxHeartbeats 4000000 in
theorem setAlg_any (l : List UInt8) (b : Nat) (s : Hs) (w : World) (h : Bl 33 w b (hsC s)) (hA : Alg w) :
    Calls Tryz.prog 22 #[.pointer (some ⟨b, 0, none⟩), .string ⟨l.toArray⟩] w fun e w' => e = .returned (.tuple #[]) ∧ But w w' b ∧ Bl 33 w' b (hsC ⟨⟨(ofF l : Int), s.h.kid, s.h.typ, s.h.has⟩, true, s.k⟩) := by
  have C0 := of_any l w hA
  have HL : Hid (Bl 33 w b (hsC s)) := h
  clear h hA
  go_enter Tryz.func22, Tryz.ntmps22
  go_wp2_with fail
  refine C0.mono ?_
  clear C0
  rintro e w1 ⟨rfl, hB⟩
  have h1 : Bl 33 w1 b (hsC s) := HL.out.below hB HL.out.lt
  have c0 : w1.cell? ⟨b, 0, none⟩ = some (.int .i64 s.h.alg) := h1.cell 0 (by simp [hsC])
  have c4 : w1.cell? ⟨b, 4, none⟩ = some (.bool s.a) := h1.cell 4 (by simp [hsC])
  have f0 := h1.frozen 0
  have f4 := h1.frozen 4
  have H1 : Hid (Bl 33 w1 b (hsC s)) := h1
  have HB : Hid (But w w1 b) := But.of_below hB
  clear h1 hB HL
  go_wp2
  go_end0
  exact ⟨rfl, (HB.out.set _ _).set _ _, (H1.out.set 0 _).set 4 _⟩

set_option maxRecDepth 100000 in
set_option maxHeartbeats 4000000 in
theorem setKid_any (l : List UInt8) (b : Nat) (s : Hs) (w : World) (h : Bl 33 w b (hsC s)) :
    Calls Tryz.prog 23 #[.pointer (some ⟨b, 0, none⟩), .string ⟨l.toArray⟩] w fun e w' => e = .returned (.tuple #[]) ∧ But w w' b ∧ Bl 33 w' b (hsC ⟨⟨s.h.alg, l, s.h.typ, s.h.has⟩, s.a, true⟩) := by
  have c1 : w.cell? ⟨b, 1, none⟩ = some (.string ⟨s.h.kid.toArray⟩) := h.cell 1 (by simp [hsC])
  have c5 : w.cell? ⟨b, 5, none⟩ = some (.bool s.k) := h.cell 5 (by simp [hsC])
  have f1 := h.frozen 1
  have f5 := h.frozen 5
  have H1 : Hid (Bl 33 w b (hsC s)) := h
  clear h
  go_enter Tryz.func23, Tryz.ntmps23
  go_wp2
  go_end0
  exact ⟨rfl, ((But.refl _ _).set _ _).set _ _, (H1.out.set 1 _).set 5 _⟩

set_option maxRecDepth 100000 in
set_option maxHeartbeats 4000000 in
theorem setTyp_any (l : List UInt8) (b : Nat) (s : Hs) (w : World) (h : Bl 33 w b (hsC s)) :
    Calls Tryz.prog 24 #[.pointer (some ⟨b, 0, none⟩), .string ⟨l.toArray⟩] w fun e w' => e = .returned (.tuple #[]) ∧ But w w' b ∧ Bl 33 w' b (hsC ⟨⟨s.h.alg, s.h.kid, l, true⟩, s.a, s.k⟩) := by
  have c2 : w.cell? ⟨b, 2, none⟩ = some (.string ⟨s.h.typ.toArray⟩) := h.cell 2 (by simp [hsC])
  have c3 : w.cell? ⟨b, 3, none⟩ = some (.bool s.h.has) := h.cell 3 (by simp [hsC])
  have f2 := h.frozen 2
  have f3 := h.frozen 3
  have H1 : Hid (Bl 33 w b (hsC s)) := h
  clear h
  go_enter Tryz.func24, Tryz.ntmps24
  go_wp2
  go_end0
  exact ⟨rfl, ((But.refl _ _).set _ _).set _ _, (H1.out.set 2 _).set 3 _⟩

/-- The table of what each member sets. -/
def fnV (f b : Nat) : Value := .func (.func f) #[.pointer (some ⟨b, 0, none⟩)] #[]
def mE (b : Nat) : List MapEntry := [⟨.string ⟨kA.toArray⟩, fnV 22 b, 0⟩, ⟨.string ⟨kK.toArray⟩, fnV 23 b, 1⟩, ⟨.string ⟨kT.toArray⟩, fnV 24 b, 2⟩]
theorem und_mset : Tryz.prog.underlying 49 = some (.map 9 51) := by kernel_rfl
theorem und_str : Tryz.prog.underlying 9 = some .string := by kernel_rfl
theorem check_str (e : Bool) (x : ByteArray) (w : World) : (Instr.checkKey e 10000 9 (.string x)).run Tryz.prog w = .ok () w := by
  unfold Instr.checkKey
  simp only [Sem.run_bind, run_underlying und_str, Result.andThen_ok]
  rfl
theorem find_str (x : ByteArray) (es : List MapEntry) (w : World) {r : Option (Nat × Value)} (h : Instr.findNow .string (.string x) es 0 = some r) : (Instr.findKey 9 (.string x) es).run Tryz.prog w = .ok r w := by
  unfold Instr.findKey
  simp only [Sem.run_bind, run_underlying und_str, Result.andThen_ok, h]
  rfl
theorem upd_str (w : World) (mb : Nat) (es : Array MapEntry) (clk : Nat) (x : ByteArray) (v : Value) (hw : w.heap[mb]? = some (.map es clk)) (h : Instr.findNow .string (.string x) es.toList 0 = some none) :
    (Instr.mapUpdate 49 (.map (some mb)) (.string x) v).run Tryz.prog w = .ok () (mW w mb (es.push ⟨.string x, v, clk⟩) (clk + 1)) := by
  unfold Instr.mapUpdate
  simp only [Sem.run_bind, run_underlying und_mset, Result.andThen_ok, run_getObj' w mb _ _ hw, check_str, find_str x _ w h, run_setObj' w mb _ _ _ _ hw]
theorem look_str (w : World) (mb : Nat) (es : Array MapEntry) (clk : Nat) (x : ByteArray) (i : Nat) (v : Value) (hw : w.heap[mb]? = some (.map es clk)) (h : Instr.findNow .string (.string x) es.toList 0 = some (some (i, v))) :
    (Instr.lookup 49 (.map (some mb)) (.string x) true).run Tryz.prog w = .ok (.tuple #[v, .bool true]) w := by
  unfold Instr.lookup
  simp only [Sem.run_bind, run_underlying und_mset, Result.andThen_ok, run_getObj' w mb _ _ hw, Sem.run_pure, check_str, find_str x _ w h]
  rfl
theorem zero_fn (w : World) : (zeroValue 51).run Tryz.prog w = .ok .nilFunc w := by kernel_rfl
theorem look_str0 (w : World) (mb : Nat) (es : Array MapEntry) (clk : Nat) (x : ByteArray) (hw : w.heap[mb]? = some (.map es clk)) (h : Instr.findNow .string (.string x) es.toList 0 = some none) :
    (Instr.lookup 49 (.map (some mb)) (.string x) true).run Tryz.prog w = .ok (.tuple #[.nilFunc, .bool false]) w := by
  unfold Instr.lookup
  simp only [Sem.run_bind, run_underlying und_mset, Result.andThen_ok, run_getObj' w mb _ _ hw, Sem.run_pure, check_str, find_str x _ w h, zero_fn]
  rfl
theorem bytes_ne {a b : List UInt8} (h : a ≠ b) : ((⟨a.toArray⟩ : ByteArray) == ⟨b.toArray⟩) = false := by
  rw [beq_toListBytes]
  simpa using h
theorem bytes_eq (a : List UInt8) : ((⟨a.toArray⟩ : ByteArray) == ⟨a.toArray⟩) = true := by
  rw [beq_toListBytes]
  simp
theorem find_A (b : Nat) : Instr.findNow .string (.string ⟨kA.toArray⟩) (mE b) 0 = some (some (0, fnV 22 b)) := by
  simp [mE, Instr.findNow, Instr.sameNow, bytes_eq]
theorem find_K (b : Nat) : Instr.findNow .string (.string ⟨kK.toArray⟩) (mE b) 0 = some (some (1, fnV 23 b)) := by
  simp [mE, Instr.findNow, Instr.sameNow, bytes_ne (show kK ≠ kA by decide), bytes_eq]
theorem find_T (b : Nat) : Instr.findNow .string (.string ⟨kT.toArray⟩) (mE b) 0 = some (some (2, fnV 24 b)) := by
  simp [mE, Instr.findNow, Instr.sameNow, bytes_ne (show kT ≠ kA by decide), bytes_ne (show kT ≠ kK by decide), bytes_eq]
theorem find_0 (b : Nat) {x : List UInt8} (hA : x ≠ kA) (hK : x ≠ kK) (hT : x ≠ kT) : Instr.findNow .string (.string ⟨x.toArray⟩) (mE b) 0 = some none := by
  simp [mE, Instr.findNow, Instr.sameNow, bytes_ne hA, bytes_ne hK, bytes_ne hT]

set_option maxRecDepth 100000 in
set_option maxHeartbeats 4000000 in
theorem members_any (b : Nat) (w : World) : Calls Tryz.prog 13 #[.pointer (some ⟨b, 0, none⟩)] w fun e w' => e = .returned (.map (some w.heap.size)) ∧ Below w.heap.size w w' ∧ w.heap.size < w'.heap.size ∧ w'.heap[w.heap.size]? = some (.map (mE b).toArray 3) := by
  have hmf : ∀ (fn : Fn) (first cap : Array Value) (w : World), (Instr.makeFunc fn first cap).run Tryz.prog w = .ok (.func fn first cap) w := fun _ _ _ _ => rfl
  obtain ⟨W0, hW0⟩ : ∃ W : World, W = w.alloc (.map #[] 0) := ⟨_, rfl⟩
  have r0 : (Instr.makeMap 49 none).run Tryz.prog w = .ok (.map (some w.heap.size)) W0 := by rw [hW0]; rfl
  have h0 : W0.heap[w.heap.size]? = some (.map #[] 0) := by rw [hW0]; unfold World.alloc; simp
  have s0 : w.heap.size < W0.heap.size := by rw [hW0]; unfold World.alloc; simp
  obtain ⟨W1, hW1⟩ : ∃ W : World, W = mW W0 w.heap.size ((#[] : Array MapEntry).push ⟨.string ⟨#[97, 108, 103]⟩, .func (.func 22) #[.pointer (some ⟨b, 0, none⟩)] #[], 0⟩) (0 + 1) := ⟨_, rfl⟩
  have r1 : (Instr.mapUpdate 49 (.map (some w.heap.size)) (.string ⟨#[97, 108, 103]⟩) (.func (.func 22) #[.pointer (some ⟨b, 0, none⟩)] #[])).run Tryz.prog W0 = .ok () W1 := by
    rw [hW1]; exact upd_str W0 _ _ _ _ _ h0 rfl
  have h1 := mW_at W0 w.heap.size ((#[] : Array MapEntry).push ⟨.string ⟨#[97, 108, 103]⟩, .func (.func 22) #[.pointer (some ⟨b, 0, none⟩)] #[], 0⟩) (0 + 1) s0
  have t1 := mW_but W0 w.heap.size ((#[] : Array MapEntry).push ⟨.string ⟨#[97, 108, 103]⟩, .func (.func 22) #[.pointer (some ⟨b, 0, none⟩)] #[], 0⟩) (0 + 1)
  rw [← hW1] at h1 t1
  obtain ⟨W2, hW2⟩ : ∃ W : World, W = mW W1 w.heap.size (((#[] : Array MapEntry).push ⟨.string ⟨#[97, 108, 103]⟩, .func (.func 22) #[.pointer (some ⟨b, 0, none⟩)] #[], 0⟩).push ⟨.string ⟨#[107, 105, 100]⟩, .func (.func 23) #[.pointer (some ⟨b, 0, none⟩)] #[], 0 + 1⟩) (0 + 1 + 1) := ⟨_, rfl⟩
  have r2 : (Instr.mapUpdate 49 (.map (some w.heap.size)) (.string ⟨#[107, 105, 100]⟩) (.func (.func 23) #[.pointer (some ⟨b, 0, none⟩)] #[])).run Tryz.prog W1 = .ok () W2 := by
    rw [hW2]; exact upd_str W1 _ _ _ _ _ h1 (by simp [Instr.findNow, Instr.sameNow, bytes_ne (a := kK) (b := kA) (by decide)])
  have s1 : w.heap.size < W1.heap.size := Nat.lt_of_lt_of_le s0 t1.size
  have h2 := mW_at W1 w.heap.size (((#[] : Array MapEntry).push ⟨.string ⟨#[97, 108, 103]⟩, .func (.func 22) #[.pointer (some ⟨b, 0, none⟩)] #[], 0⟩).push ⟨.string ⟨#[107, 105, 100]⟩, .func (.func 23) #[.pointer (some ⟨b, 0, none⟩)] #[], 0 + 1⟩) (0 + 1 + 1) s1
  have t2 := mW_but W1 w.heap.size (((#[] : Array MapEntry).push ⟨.string ⟨#[97, 108, 103]⟩, .func (.func 22) #[.pointer (some ⟨b, 0, none⟩)] #[], 0⟩).push ⟨.string ⟨#[107, 105, 100]⟩, .func (.func 23) #[.pointer (some ⟨b, 0, none⟩)] #[], 0 + 1⟩) (0 + 1 + 1)
  rw [← hW2] at h2 t2
  obtain ⟨W3, hW3⟩ : ∃ W : World, W = mW W2 w.heap.size (mE b).toArray 3 := ⟨_, rfl⟩
  have r3 : (Instr.mapUpdate 49 (.map (some w.heap.size)) (.string ⟨#[116, 121, 112]⟩) (.func (.func 24) #[.pointer (some ⟨b, 0, none⟩)] #[])).run Tryz.prog W2 = .ok () W3 := by
    rw [hW3]; exact upd_str W2 _ _ _ _ _ h2 (by simp [Instr.findNow, Instr.sameNow, bytes_ne (a := kT) (b := kA) (by decide), bytes_ne (a := kT) (b := kK) (by decide)])
  have s2 : w.heap.size < W2.heap.size := Nat.lt_of_lt_of_le s1 t2.size
  have h3 := mW_at W2 w.heap.size (mE b).toArray 3 s2
  have t3 := mW_but W2 w.heap.size (mE b).toArray 3
  rw [← hW3] at h3 t3
  have HB : Hid (Below w.heap.size w W3) := by
    have a0 : But w W0 w.heap.size := by rw [hW0]; exact But.of_below (alloc_below _ _)
    exact (((a0.trans t1).trans t2).trans t3).below (Nat.le_refl _) (Nat.le_refl _)
  have HS : Hid (w.heap.size < W3.heap.size) := Nat.lt_of_lt_of_le s2 t3.size
  have H3 : Hid (W3.heap[w.heap.size]? = some (.map (mE b).toArray 3)) := h3
  clear h0 s0 h1 t1 h2 t2 s1 s2 h3 t3 hW0 hW1 hW2 hW3
  go_enter Tryz.func13, Tryz.ntmps13
  go_wp2
  go_ret
  exact ⟨rfl, HB.out, HS.out, H3.out⟩

end Go.Proofs.YtkaiecpdkieedaaGreatDoor
