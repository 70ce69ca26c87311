import Derived.Test.YtpfdaclmchcbiaaDoorShSpec
namespace Go.Proofs.YtpfdaclmchcbiaaDoor.Sha
open Go.RowKit
set_option maxRecDepth 100000

theorem alloc_cl (w : World) (vs : List Value) (t : TypeId) : Cl (w.alloc (.cells vs.toArray t)) w.heap.size vs := ⟨t, by unfold World.alloc; simp⟩
theorem alloc_below (w : World) (o : Obj) : Below w.heap.size w (w.alloc o) := Below.alloc (Below.refl _ _) (Nat.le_refl _) _

/-- A piece of the tail. -/
def pc (bl : List UInt8) (n k : Nat) : List UInt8 := (bl.drop (n * k)).take n
theorem pc_length (bl : List UInt8) (n k : Nat) (h : n * k + n ≤ bl.length) : (pc bl n k).length = n := by simp [pc]; omega
theorem pc_get (bl : List UInt8) (n k j : Nat) (_h : n * k + n ≤ bl.length) (hj : j < (pc bl n k).length) (h2 : n * k + j < bl.length) : (pc bl n k)[j] = bl[n * k + j] := by simp [pc]

theorem infoB : (Tryd.prog.info? 5).map (fun i => (i.zero, i.size, i.bytes)) = some (some (.int .u8 0), 1, 1) := by kernel_rfl

/-- A stretch of the tail as a slice. -/
theorem tail_slice (b l h : Nat) (w : World) (lo hi : Int) (el : lo = (l : Int)) (eh : hi = (h : Int)) (h1 : l ≤ h) (h2 : h ≤ 128) (h3 : l < 128) :
    (Instr.sliceAt 44 (.pointer (some ⟨b, 10, none⟩)) (some (.int .i64 lo)) (some (.int .i64 hi)) none).run Tryd.prog w = .ok (.slice (some ⟨b, 10 + l, none⟩) (h - l) (128 - l)) w := by
  subst el eh
  rw [run_sliceAt_array_lh w 44 ⟨b, 10, none⟩ (by kernel_rfl) .i64 .i64 (l : Int) (h : Int) (by omega) (by omega) (by rw [show Tryd.prog.arrayLen 44 = 128 from by kernel_rfl]; omega)]
  have e : Tryd.prog.arrayLen 44 = 128 := by kernel_rfl
  have e0 : Tryd.prog.elem 44 = 5 := by kernel_rfl
  obtain ⟨i0, hi, _⟩ := info_parts infoB
  have e2 : (sizeOf (Tryd.prog.elem 44)).run Tryd.prog w = .ok 1 w := by
    rw [e0, run_sizeOf w hi, show Tryd.prog.cellsOf 5 = 1 from by kernel_rfl]
  have ea : (⟨b, 10, none⟩ : Addr).add l = ⟨b, 10 + l, none⟩ := by
    unfold Addr.add
    by_cases h0 : l = 0
    · subst h0; rfl
    · simp [h0]
  rw [e, e2]
  show Result.ok (slicedAt _ _ _ _ 1) w = _
  unfold slicedAt
  rw [if_neg (by simp; omega)]
  simp only [Int.toNat_natCast, Nat.mul_one]
  rw [ea]

theorem zero_run {P : Program} {t : TypeId} {v : Value} (h : (P.info? t).bind (·.zero) = some v) (w : World) : (zeroValue t).run P w = .ok v w := by
  cases hq : P.info? t with
  | none => rw [hq] at h; cases h
  | some i =>
    rw [hq] at h
    have h2 : i.zero = some v := h
    simp [zeroValue, typeInfo, hq, h2]

theorem zero80 : ∃ Z : List Value, Z = List.replicate 80 (.int .u64 0) ∧ ∀ w, (zeroValue 58).run Tryd.prog w = .ok (.agg Z.toArray) w :=
  ⟨_, rfl, zero_run (by kernel_rfl)⟩

theorem nxw (a b c d : Int) : IntKind.u64.wrap (IntKind.u64.wrap (IntKind.u64.wrap (a + b) + c) + d) = (a + b + c + d) % 18446744073709551616 := by
  simp only [IntKind.wrap_u64, Int.emod_add_emod]
theorem ttw (a b c d e : Int) : IntKind.u64.wrap (IntKind.u64.wrap (IntKind.u64.wrap (IntKind.u64.wrap (a + b) + c) + d) + e) = (a + b + c + d + e) % 18446744073709551616 := by
  simp only [IntKind.wrap_u64, Int.emod_add_emod]

theorem run_size1 {P : Program} {e : TypeId} (h : (P.info? e).map (·.size) = some 1) (w : World) : (sizeOf e).run P w = .ok 1 w := by
  cases hq : P.info? e with
  | none => simp [hq] at h
  | some i => simp [hq] at h; simp [sizeOf, typeInfo, hq, h]

theorem idx_agg {P : Program} (t e : TypeId) (n : Nat) (kd : IntKind) (cs : Array Value) (k : Nat) (x : Value) (w : World) (h : P.underlying t = some (.array n e)) (he : P.underlying e = some (.int kd)) (hs : (P.info? e).map (·.size) = some 1) (hk : k < n) (hx : cs[k]? = some x) :
    (Instr.index t (.agg cs) (.int .i64 (k : Int))).run P w = .ok x w := by
  have hn : (0 ≤ (k : Int) ∧ (k : Int) < (n : Int)) := by omega
  have hs2 := run_size1 hs
  have hag : (isAgg e).run P w = .ok false w := by
    unfold isAgg
    rw [Sem.run_bind, run_underlying he w]
    simp
  simp [Instr.index, run_underlying h, asIntOf, hn, hs2, part, hag, hx]
  intro hh
  omega

theorem stV_setchain (h : Int) (ch : List Int) (ct : Nat) (tl : List UInt8) (k : Nat) (x : Int) (hk : k < ch.length) : (stV h ch ct tl).set (1 + k) (V x) = stV h (ch.set k x) ct tl := by
  unfold stV
  rw [Nat.add_comm, List.set_cons_succ, List.set_append_left _ _ (by simpa using hk), List.map_set]

theorem mix_set (O C : List Int) (k : Nat) (h1 : k < O.length) (h2 : k < C.length) : (O.take k ++ C.drop k).set k (O.getD k 0) = O.take (k + 1) ++ C.drop (k + 1) := by
  have e : (O.take k).length = k := by simp; omega
  rw [List.set_append_right _ _ (by omega), e, Nat.sub_self, List.drop_eq_getElem_cons h2, List.set_cons_zero, List.take_succ_eq_append_getElem h1]
  have g : O.getD k 0 = O[k] := by simp [List.getD_eq_getElem?_getD, h1]
  rw [g, List.append_assoc]
  rfl

end Go.Proofs.YtpfdaclmchcbiaaDoor.Sha