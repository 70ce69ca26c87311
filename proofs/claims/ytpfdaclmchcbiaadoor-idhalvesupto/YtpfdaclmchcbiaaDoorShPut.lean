import Derived.Test.YtpfdaclmchcbiaaDoorShSmall
namespace Go.Proofs.YtpfdaclmchcbiaaDoor.Sha
open Go.RowKit
set_option maxRecDepth 100000

/-- A row with a stretch of it written over. -/
def spl (vs : List Value) (off : Nat) (xs : List Value) : List Value := vs.take off ++ xs ++ vs.drop (off + xs.length)

theorem spl_length (vs : List Value) (off : Nat) (xs : List Value) (h : off + xs.length ≤ vs.length) : (spl vs off xs).length = vs.length := by
  unfold spl; simp; omega

theorem spl_nil (vs : List Value) (off : Nat) : spl vs off [] = vs := by simp [spl]

theorem spl_set (vs : List Value) (off : Nat) (xs : List Value) (v : Value) (h : off + xs.length < vs.length) : (spl vs off xs).set (off + xs.length) v = spl vs off (xs ++ [v]) := by
  unfold spl
  have e : (vs.take off ++ xs).length = off + xs.length := by simp; omega
  rw [List.set_append_right _ _ (by omega), e, Nat.sub_self, List.drop_eq_getElem_cons h, List.set_cons_zero]
  simp [Nat.add_assoc]

/-- The n lowest bytes of a number, the most significant first. -/
def tobe (n N : Nat) : List UInt8 := (List.range n).map fun i => UInt8.ofNat (N / 256 ^ (n - 1 - i) % 256)

theorem tobe_length (n N : Nat) : (tobe n N).length = n := by simp [tobe]

theorem tobe_get (n N k : Nat) (h : k < (tobe n N).length) : (tobe n N)[k].toNat = N / 256 ^ (n - 1 - k) % 256 := by
  simp [tobe]

theorem shr8 (N m : Nat) : (N : Int) / 2 ^ (8 * m) % 256 = ((N / 256 ^ m % 256 : Nat) : Int) := by
  have : (2 : Int) ^ (8 * m) = ((256 ^ m : Nat) : Int) := by rw [Int.pow_mul]; simp
  rw [this]
  omega

set_option maxHeartbeats 400000 in
theorem put_bl (t : TypeId) (b off n cap N : Nat) (vs : List Value) (w : World) (hx : Bl t w b vs) (hn : off + n ≤ vs.length) (_hv : vs.length ≤ 1000000) (h8 : n ≤ 8) (_hN : N < 18446744073709551616) :
    Calls Tryd.prog 24 #[.slice (some ⟨b, off, none⟩) n cap, .int .u64 N] w fun e w' => e = .returned (.tuple #[]) ∧ Bl t w' b (spl vs off ((tobe n N).map B)) ∧ But w w' b ∧ w'.heap.size = w.heap.size := by
  go_enter Tryd.func24, Tryd.ntmps24
  go_wp2
  go_loopw [4, 7] (fun _ s wr => ∃ k : Nat, s = .int .i64 (k : Int) ∧ k ≤ n ∧ Bl t wr b (spl vs off (((tobe n N).take k).map B)) ∧ But w wr b ∧ wr.heap.size = w.heap.size) (fun _ s _ => n - (intOf s).toNat)
  case atStart => exact ⟨0, rfl, Nat.zero_le _, by simpa [spl_nil] using hx, But.refl _ _, rfl⟩
  case round =>
    obtain ⟨k, rfl, hk, hcl, hbut, hsz⟩ := hrel
    by_cases hlt : k < n
    · have hkl : k < (tobe n N).length := by rw [tobe_length]; exact hlt
      have gf := hcl.frozen (off + k)
      have gl : off + k < (spl vs off (((tobe n N).take k).map B)).length := by rw [spl_length _ _ _ (by simp [tobe_length]; omega)]; omega
      have gc := hcl.cell (off + k) gl
      generalize (spl vs off (((tobe n N).take k).map B))[off + k] = old at gc
      go_wp2
      have hst := hcl.set (off + k) (.int .u8 ((N : Int) / 2 ^ (8 * (n - 1 - k)) % 256))
      have e1 : (.int .u8 ((N : Int) / 2 ^ (8 * (n - 1 - k)) % 256) : Value) = B (tobe n N)[k] := by
        unfold B; rw [tobe_get, shr8]
      have e2 : off + (((tobe n N).take k).map B).length = off + k := by simp [tobe_length]; omega
      have e3 : ((tobe n N).take (k + 1)).map B = ((tobe n N).take k).map B ++ [B (tobe n N)[k]] := by
        rw [List.take_succ_eq_append_getElem hkl, List.map_append]; rfl
      have e4 := spl_set vs off (((tobe n N).take k).map B) (B (tobe n N)[k]) (by rw [e2]; omega)
      rw [e2, ← e3] at e4
      refine ⟨⟨k + 1, by go_num, by omega, ?_, hbut.set _ _, by simpa using hsz⟩, by simp [intOf]; omega⟩
      rw [e1] at hst ⊢
      rw [← e4]
      exact hst
    · obtain rfl : k = n := by omega
      go_wp2
      go_end0
      refine ⟨rfl, ?_, hbut, hsz⟩
      rw [List.take_of_length_le (by rw [tobe_length]; exact Nat.le_refl _)] at hcl
      exact hcl

theorem put_any (b off n cap N : Nat) (vs : List Value) (w : World) (hx : Cl w b vs) (hn : off + n ≤ vs.length) (hv : vs.length ≤ 1000000) (h8 : n ≤ 8) (hN : N < 18446744073709551616) :
    Calls Tryd.prog 24 #[.slice (some ⟨b, off, none⟩) n cap, .int .u64 N] w fun e w' => e = .returned (.tuple #[]) ∧ Cl w' b (spl vs off ((tobe n N).map B)) ∧ But w w' b ∧ w'.heap.size = w.heap.size := by
  obtain ⟨t, ht⟩ := hx
  refine (put_bl t b off n cap N vs w ht hn hv h8 hN).mono ?_
  rintro e w1 ⟨h1, h2, h3, h4⟩
  exact ⟨h1, h2.cl, h3, h4⟩

/-- A state's cells: the hash, the chain, how many bytes, the tail. -/
def stV (h : Int) (ch : List Int) (ct : Nat) (tl : List UInt8) : List Value := .int .i64 h :: (ch.map V ++ (.int .u64 (ct : Int) :: tl.map B))

theorem stV_length (h : Int) (ch : List Int) (ct : Nat) (tl : List UInt8) : (stV h ch ct tl).length = ch.length + tl.length + 2 := by simp [stV]; omega

theorem stV_hash {w : World} {b : Nat} {h : Int} {ch : List Int} {ct : Nat} {tl : List UInt8} (H : Cl w b (stV h ch ct tl)) : w.cell? ⟨b, 0, none⟩ = some (.int .i64 h) :=
  H.cell 0 (by rw [stV_length]; omega)
theorem stV_count {w : World} {b : Nat} {h : Int} {ch : List Int} {ct : Nat} {tl : List UInt8} (H : Cl w b (stV h ch ct tl)) (h8 : ch.length = 8) : w.cell? ⟨b, 9, none⟩ = some (.int .u64 (ct : Int)) := by
  have := H.cell 9 (by rw [stV_length]; omega)
  rw [this]
  congr 1
  simp only [stV, List.getElem_cons_succ]
  rw [List.getElem_append_right (by simp; omega)]
  simp [h8]
theorem stV_chain {w : World} {b : Nat} {h : Int} {ch : List Int} {ct : Nat} {tl : List UInt8} (H : Cl w b (stV h ch ct tl)) (j : Nat) (hj : j < ch.length) : w.cell? ⟨b, 1 + j, none⟩ = some (V ch[j]) := by
  have := H.cell (1 + j) (by rw [stV_length]; omega)
  rw [this]
  congr 1
  simp only [stV, Nat.add_comm 1 j, List.getElem_cons_succ]
  rw [List.getElem_append_left (by simp; exact hj)]
  simp
theorem stV_tail {w : World} {b : Nat} {h : Int} {ch : List Int} {ct : Nat} {tl : List UInt8} (H : Cl w b (stV h ch ct tl)) (h8 : ch.length = 8) (j : Nat) (hj : j < tl.length) : w.cell? ⟨b, 10 + j, none⟩ = some (B tl[j]) := by
  have := H.cell (10 + j) (by rw [stV_length]; omega)
  rw [this]
  congr 1
  simp only [stV, show 10 + j = (9 + j) + 1 by omega, List.getElem_cons_succ]
  rw [List.getElem_append_right (by simp; omega)]
  simp only [List.length_map, h8, show 9 + j - 8 = j + 1 by omega, List.getElem_cons_succ, List.getElem_map]

set_option maxHeartbeats 400000 in
theorem filled_any (b : Nat) (h : Int) (ch : List Int) (ct : Nat) (tl : List UInt8) (w : World) (H : Cl w b (stV h ch ct tl)) (h8 : ch.length = 8) (hh : 0 < blk h) (hct : ct < 18446744073709551616) :
    Calls Tryd.prog 20 #[.pointer (some ⟨b, 0, none⟩)] w fun e w' => e = .returned (.int .i64 ((ct % blk h : Nat) : Int)) ∧ w' = w.drewN 1 := by
  have g0 := stV_hash H
  have g9 := stV_count H h8
  have hb : blk h ≤ 128 := by unfold blk; (repeat' split) <;> omega
  have C := block_any h (w.drewN 1)
  generalize blk h = m at *
  clear H
  go_enter Tryd.func20, Tryd.ntmps20
  go_wp2
  refine wp_region_tail 12 (by kernel_rfl) (by kernel_rfl) ?_
  simp only [List.take_succ_cons, List.take_zero, List.drop_succ_cons, List.drop_zero]
  repeat (first | go_big_quiet_skip | (go_big_quiet_want; go_big_quiet_op; first | go_big_quiet_on | (apply Exists.intro; refine ⟨C, ?_⟩; go_big_quiet_on)))
  refine wpQuiet_nil ?_
  go_wp2
  go_ret
  refine ⟨?_, rfl⟩
  show Ending.returned (.int .i64 (wrap64 ((ct : Int) % (m : Int)))) = _
  rw [← Int.natCast_emod]
  congr 2
  have h1 : ct % m < m := Nat.mod_lt _ hh
  unfold wrap64
  omega
end Go.Proofs.YtpfdaclmchcbiaaDoor.Sha