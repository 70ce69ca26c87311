import Derived.Test.YtkaoobdemaahbaaWd4
namespace Go.Proofs.Ytkaoobdemaahbaa
open Go.RowKit

theorem B_int (x : Int) (h0 : 0 ≤ x) (h1 : x < 256) : B (UInt8.ofNat x.toNat) = .int .u8 x := by
  unfold B
  rw [u8_ofNat _ (by omega), show ((x.toNat : Nat) : Int) = x from by omega]
theorem B_nat (x : Nat) (h1 : x < 256) : B (UInt8.ofNat x) = .int .u8 (x : Int) := by
  unfold B
  rw [u8_ofNat _ h1]
theorem alloc_own (w : World) (vs : List Value) (l : List UInt8) (n : Nat) (h : l.map B = vs) (hn : l.length = n) (hl : n ≤ 1000) : (w.alloc (.cells vs.toArray 5)).ownsRow w.heap.size 5 1 (.slice (some ⟨w.heap.size, 0, none⟩) n n) l.length (l.map B) := by
  have hb := alloc_bl w vs 5
  subst hn
  subst h
  refine ⟨by simp, .inr ⟨w.heap.size, l.length, (l.map B).toArray, rfl, Nat.le_refl _, hb, Nat.le_refl _, ?_, by simp, ?_⟩⟩
  · unfold maxLen; omega
  · rw [List.take_of_length_le (by simp)]

set_option maxRecDepth 100000 in
set_option maxHeartbeats 2000000 in
/-- The document's Head. -/
theorem rhead_any (t : Int) (n : Nat) (w : World) (ht0 : 0 ≤ t) (ht1 : t ≤ 255) (hn : n ≤ 65537) :
    Calls Try.prog 27 #[.int .i64 t, .int .i64 (n : Int)] w fun e w' => ∃ v, e = .returned v ∧ w'.ownsRow w.heap.size 5 1 v (hd t n).length ((hd t n).map B) ∧ Below w.heap.size w w' := by
  rcases Nat.lt_or_ge n 128 with h1 | h1
  · have Hh : Hid (hd t n = [UInt8.ofNat t.toNat, UInt8.ofNat n]) := if_pos h1
    have HO : Hid ((w.alloc (.cells #[.int .u8 t, .int .u8 (n : Int)] 5)).ownsRow w.heap.size 5 1 (.slice (some ⟨w.heap.size, 0, none⟩) 2 2) (hd t n).length ((hd t n).map B)) := by
      rw [Hh.out]
      exact alloc_own w [.int .u8 t, .int .u8 (n : Int)] [UInt8.ofNat t.toNat, UInt8.ofNat n] 2 (by simp only [List.map_cons, List.map_nil]; rw [B_int t ht0 (by omega), B_nat n (by omega)]) rfl (by omega)
    have d1 : decide ((n : Int) < 128) = true := decide_eq_true (by omega)
    clear Hh
    go_enter Try.func27, Try.ntmps27
    go_wp2
    go_ret
    exact ⟨_, rfl, HO.out, alloc_below _ _⟩
  have d1 : decide ((n : Int) < 128) = false := decide_eq_false (by omega)
  rcases Nat.lt_or_ge n 256 with h2 | h2
  · have Hh : Hid (hd t n = [UInt8.ofNat t.toNat, 0x81, UInt8.ofNat n]) := by show _ = _; unfold hd; rw [if_neg (by omega), if_pos h2]
    have HO : Hid ((w.alloc (.cells #[.int .u8 t, .int .u8 129, .int .u8 (n : Int)] 5)).ownsRow w.heap.size 5 1 (.slice (some ⟨w.heap.size, 0, none⟩) 3 3) (hd t n).length ((hd t n).map B)) := by
      rw [Hh.out]
      exact alloc_own w [.int .u8 t, .int .u8 129, .int .u8 (n : Int)] [UInt8.ofNat t.toNat, 0x81, UInt8.ofNat n] 3 (by simp only [List.map_cons, List.map_nil]; rw [B_int t ht0 (by omega), B_nat n (by omega)]; rfl) rfl (by omega)
    have d2 : decide ((n : Int) < 256) = true := decide_eq_true (by omega)
    clear Hh
    go_enter Try.func27, Try.ntmps27
    go_wp2
    go_ret
    exact ⟨_, rfl, HO.out, alloc_below _ _⟩
  have d2 : decide ((n : Int) < 256) = false := decide_eq_false (by omega)
  obtain ⟨a, Ha⟩ : ∃ a, Hid (n / 256 = a) := ⟨_, rfl⟩
  obtain ⟨b, Hb⟩ : ∃ b, Hid (n % 256 = b) := ⟨_, rfl⟩
  have hab : a ≤ 256 := by rw [← Ha.out]; omega
  have hbb : b < 256 := by rw [← Hb.out]; omega
  have ea : Int.tdiv (n : Int) 256 = (a : Int) := by rw [Int.tdiv_eq_ediv_of_nonneg (by omega), ← Ha.out]; omega
  have ea2 : (n : Int) / 256 = (a : Int) := by rw [← Ha.out]; omega
  have eb : Int.tmod (n : Int) 256 = (b : Int) := by rw [Int.tmod_eq_emod_of_nonneg (by omega), ← Hb.out]; omega
  have eb2 : (n : Int) % 256 = (b : Int) := by rw [← Hb.out]; omega
  rcases Nat.lt_or_ge n 65536 with h3 | h3
  · have ha2 : a < 256 := by rw [← Ha.out]; omega
    have Hh : Hid (hd t n = [UInt8.ofNat t.toNat, 0x82, UInt8.ofNat a, UInt8.ofNat b]) := by show _ = _; unfold hd; rw [if_neg (by omega), if_neg (by omega), if_pos h3, Ha.out, Hb.out]
    have HO : Hid ((w.alloc (.cells #[.int .u8 t, .int .u8 130, .int .u8 (a : Int), .int .u8 (b : Int)] 5)).ownsRow w.heap.size 5 1 (.slice (some ⟨w.heap.size, 0, none⟩) 4 4) (hd t n).length ((hd t n).map B)) := by
      rw [Hh.out]
      exact alloc_own w [.int .u8 t, .int .u8 130, .int .u8 (a : Int), .int .u8 (b : Int)] [UInt8.ofNat t.toNat, 0x82, UInt8.ofNat a, UInt8.ofNat b] 4 (by simp only [List.map_cons, List.map_nil]; rw [B_int t ht0 (by omega), B_nat a ha2, B_nat b hbb]; rfl) rfl (by omega)
    have d3 : decide ((n : Int) < 65536) = true := decide_eq_true (by omega)
    clear Hh
    go_enter Try.func27, Try.ntmps27
    go_wp2
    go_ret
    exact ⟨_, rfl, HO.out, alloc_below _ _⟩
  have d3 : decide ((n : Int) < 65536) = false := decide_eq_false (by omega)
  obtain ⟨c, Hc⟩ : ∃ c, Hid (n / 65536 = c) := ⟨_, rfl⟩
  obtain ⟨d, Hd⟩ : ∃ d, Hid (a % 256 = d) := ⟨_, rfl⟩
  have hcb : c ≤ 1 := by rw [← Hc.out]; omega
  have hdb : d < 256 := by rw [← Hd.out]; omega
  have ec : Int.tdiv (n : Int) 65536 = (c : Int) := by rw [Int.tdiv_eq_ediv_of_nonneg (by omega), ← Hc.out]; omega
  have ec2 : (n : Int) / 65536 = (c : Int) := by rw [← Hc.out]; omega
  have ed : Int.tmod (a : Int) 256 = (d : Int) := by rw [Int.tmod_eq_emod_of_nonneg (by omega), ← Hd.out]; omega
  have ed2 : (a : Int) % 256 = (d : Int) := by rw [← Hd.out]; omega
  have Hh : Hid (hd t n = [UInt8.ofNat t.toNat, 0x83, UInt8.ofNat c, UInt8.ofNat d, UInt8.ofNat b]) := by show _ = _; unfold hd; rw [if_neg (by omega), if_neg (by omega), if_neg (by omega), Ha.out, Hb.out, Hc.out, Hd.out]
  have HO : Hid ((w.alloc (.cells #[.int .u8 t, .int .u8 131, .int .u8 (c : Int), .int .u8 (d : Int), .int .u8 (b : Int)] 5)).ownsRow w.heap.size 5 1 (.slice (some ⟨w.heap.size, 0, none⟩) 5 5) (hd t n).length ((hd t n).map B)) := by
    rw [Hh.out]
    exact alloc_own w [.int .u8 t, .int .u8 131, .int .u8 (c : Int), .int .u8 (d : Int), .int .u8 (b : Int)] [UInt8.ofNat t.toNat, 0x83, UInt8.ofNat c, UInt8.ofNat d, UInt8.ofNat b] 5 (by simp only [List.map_cons, List.map_nil]; rw [B_int t ht0 (by omega), B_nat c (by omega), B_nat d hdb, B_nat b hbb]; rfl) rfl (by omega)
  clear Hh
  go_enter Try.func27, Try.ntmps27
  go_wp2
  go_ret
  exact ⟨_, rfl, HO.out, alloc_below _ _⟩

end Go.Proofs.Ytkaoobdemaahbaa
