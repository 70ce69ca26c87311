import Derived.Test.YtpfdaclmchcbiaaDoorB6Base
namespace Go.Proofs.YtpfdaclmchcbiaaDoor.B64
open Go.RowKit
set_option maxRecDepth 100000

set_option maxHeartbeats 1000000 in
theorem grp1 (base g k cap b off c : Nat) (xs : List UInt8) (x : UInt8) (row : ByteArray) (w : World)
    (hown : w.ownsRow base 5 1 (.slice (some ⟨g, 0, none⟩) k cap) k (xs.map B)) (hfit : k + 2 ≤ cap) (hrow : row.size = 64) (hbase : base ≤ w.heap.size) (hg : base ≤ g)
    (h0 : w.cell? ⟨b, off, none⟩ = some (.int .u8 x.toNat)) :
    Calls Tryd.prog 25 #[.slice (some ⟨g, 0, none⟩) k cap, .slice (some ⟨b, off, none⟩) 1 c, .string row] w fun e w' =>
      e = .returned (.slice (some ⟨g, 0, none⟩) (k + 2) cap) ∧ w'.ownsRow base 5 1 (.slice (some ⟨g, 0, none⟩) (k + 2) cap) (k + 2) ((xs ++ sg row (x.toNat * 65536) 2).map B) ∧ Below base w w' := by
  have b0 := x.toNat_lt
  obtain ⟨i0, hi, hz0, hz1, hz2⟩ := info_parts infoB
  obtain ⟨N, hN⟩ : ∃ N, N = x.toNat * 65536 := ⟨_, rfl⟩
  have HN : Hid (bits .and .u32 ((N : Int) / 262144) 63 = (dg N 0 : Int) ∧ bits .and .u32 ((N : Int) / 4096) 63 = (dg N 1 : Int) ∧ bits .and .u32 ((N : Int) / 64) 63 = (dg N 2 : Int) ∧ bits .and .u32 (N : Int) 63 = (dg N 3 : Int)) := andj N (by omega)
  have hNl : N < 16777216 := by omega
  have Hn : Hid (N = x.toNat * 65536) := hN
  rw [← hN]
  clear hN
  go_enter Tryd.func25, Tryd.ntmps25
  go_wp2
  rw [or1 _ b0]
  rw [← Hn.out]
  clear h0 b0 Hn
  go_loopw [0, 41] (fun t s wr => ∃ j : Nat, j ≤ 2 ∧ s = .int .i64 j ∧ t = .slice (some ⟨g, 0, none⟩) (k + j) cap ∧ wr.ownsRow base 5 1 (.slice (some ⟨g, 0, none⟩) (k + j) cap) (k + j) ((xs ++ sg row N j).map B) ∧ Below base w wr)
    (fun _ s _ => 2 - (intOf s).toNat)
  case atStart => exact ⟨0, by omega, rfl, rfl, by simpa [sg] using hown, Below.refl _ _⟩
  case round =>
    obtain ⟨j, hj, rfl, rfl, hwr, hbl⟩ := hrel
    have hj' : j = 0 ∨ j = 1 ∨ j = 2 := by omega
    clear hown
    rcases hj' with rfl | rfl | rfl
    · have hb := HN.out.1
      have hq := dg_lt N 0
      have Hs : Hid (sg row N 1 = sg row N 0 ++ [at6 row (dg N 0)]) := sg_succ row N 0
      have Hr : Hid (∀ h : dg N 0 < row.size, row[dg N 0] = at6 row (dg N 0)) := fun h => at6_get row _ h
      generalize dg N 0 = q at hb hq Hs Hr
      go_wp2_with (at_builtin; refine wpList_append_fits _ rfl (.tmp 44) (.tmp 53) 29 rfl base 5 i0 1 Tryd.underlying29 hi hz1 g (k + 0) cap _ rfl (hwr.alloc _) ⟨wr.heap.size, 0, none⟩ 1 1 [.int .u8 (row[q]'(by omega)).toNat] rfl rfl (by intro t u ht; match t, ht with | 0, ht => simp at ht; subst ht; simp [Addr.add]) (by intro u hu; simp at hu; subst hu; rfl) (by omega) ?_; intro w1 hown1 hgrow1)
      go_roundw
      case rel =>
        refine ⟨1, by omega, rfl, rfl, ?_, (hbl.alloc (Nat.le_trans hbase hbl.size) _).grown hgrow1 (by have := hbl.size; simp; omega) (fun k hk => by cases hk; exact hg)⟩
        rw [Hs.out, ← List.append_assoc, List.map_append, List.map_singleton, ← Hr.out (by omega)]
        exact hown1
      case measure => simp [intOf]
    · have hb := HN.out.2.1
      have hq := dg_lt N 1
      have Hs : Hid (sg row N 2 = sg row N 1 ++ [at6 row (dg N 1)]) := sg_succ row N 1
      have Hr : Hid (∀ h : dg N 1 < row.size, row[dg N 1] = at6 row (dg N 1)) := fun h => at6_get row _ h
      generalize dg N 1 = q at hb hq Hs Hr
      go_wp2_with (at_builtin; refine wpList_append_fits _ rfl (.tmp 44) (.tmp 53) 29 rfl base 5 i0 1 Tryd.underlying29 hi hz1 g (k + 1) cap _ rfl (hwr.alloc _) ⟨wr.heap.size, 0, none⟩ 1 1 [.int .u8 (row[q]'(by omega)).toNat] rfl rfl (by intro t u ht; match t, ht with | 0, ht => simp at ht; subst ht; simp [Addr.add]) (by intro u hu; simp at hu; subst hu; rfl) (by omega) ?_; intro w1 hown1 hgrow1)
      go_roundw
      case rel =>
        refine ⟨2, by omega, rfl, rfl, ?_, (hbl.alloc (Nat.le_trans hbase hbl.size) _).grown hgrow1 (by have := hbl.size; simp; omega) (fun k hk => by cases hk; exact hg)⟩
        rw [Hs.out, ← List.append_assoc, List.map_append, List.map_singleton, ← Hr.out (by omega)]
        exact hown1
      case measure => simp [intOf]
    · go_wp2
      go_ret
      exact ⟨rfl, hwr, hbl⟩

set_option maxHeartbeats 1000000 in
theorem grp2 (base g k cap b off c : Nat) (xs : List UInt8) (x y : UInt8) (row : ByteArray) (w : World)
    (hown : w.ownsRow base 5 1 (.slice (some ⟨g, 0, none⟩) k cap) k (xs.map B)) (hfit : k + 3 ≤ cap) (hrow : row.size = 64) (hbase : base ≤ w.heap.size) (hg : base ≤ g)
    (h0 : w.cell? ⟨b, off, none⟩ = some (.int .u8 x.toNat)) (h1 : w.cell? ⟨b, off + 1, none⟩ = some (.int .u8 y.toNat)) :
    Calls Tryd.prog 25 #[.slice (some ⟨g, 0, none⟩) k cap, .slice (some ⟨b, off, none⟩) 2 c, .string row] w fun e w' =>
      e = .returned (.slice (some ⟨g, 0, none⟩) (k + 3) cap) ∧ w'.ownsRow base 5 1 (.slice (some ⟨g, 0, none⟩) (k + 3) cap) (k + 3) ((xs ++ sg row (x.toNat * 65536 + y.toNat * 256) 3).map B) ∧ Below base w w' := by
  have b0 := x.toNat_lt; have b1 := y.toNat_lt
  obtain ⟨i0, hi, hz0, hz1, hz2⟩ := info_parts infoB
  obtain ⟨N, hN⟩ : ∃ N, N = x.toNat * 65536 + y.toNat * 256 := ⟨_, rfl⟩
  have HN : Hid (bits .and .u32 ((N : Int) / 262144) 63 = (dg N 0 : Int) ∧ bits .and .u32 ((N : Int) / 4096) 63 = (dg N 1 : Int) ∧ bits .and .u32 ((N : Int) / 64) 63 = (dg N 2 : Int) ∧ bits .and .u32 (N : Int) 63 = (dg N 3 : Int)) := andj N (by omega)
  have hNl : N < 16777216 := by omega
  have Hn : Hid (N = x.toNat * 65536 + y.toNat * 256) := hN
  rw [← hN]
  clear hN
  go_enter Tryd.func25, Tryd.ntmps25
  go_wp2
  rw [or2 _ _ b0 b1]
  rw [← Hn.out]
  clear h0 b0 h1 b1 Hn
  go_loopw [0, 41] (fun t s wr => ∃ j : Nat, j ≤ 3 ∧ s = .int .i64 j ∧ t = .slice (some ⟨g, 0, none⟩) (k + j) cap ∧ wr.ownsRow base 5 1 (.slice (some ⟨g, 0, none⟩) (k + j) cap) (k + j) ((xs ++ sg row N j).map B) ∧ Below base w wr)
    (fun _ s _ => 3 - (intOf s).toNat)
  case atStart => exact ⟨0, by omega, rfl, rfl, by simpa [sg] using hown, Below.refl _ _⟩
  case round =>
    obtain ⟨j, hj, rfl, rfl, hwr, hbl⟩ := hrel
    have hj' : j = 0 ∨ j = 1 ∨ j = 2 ∨ j = 3 := by omega
    clear hown
    rcases hj' with rfl | rfl | rfl | rfl
    · have hb := HN.out.1
      have hq := dg_lt N 0
      have Hs : Hid (sg row N 1 = sg row N 0 ++ [at6 row (dg N 0)]) := sg_succ row N 0
      have Hr : Hid (∀ h : dg N 0 < row.size, row[dg N 0] = at6 row (dg N 0)) := fun h => at6_get row _ h
      generalize dg N 0 = q at hb hq Hs Hr
      go_wp2_with (at_builtin; refine wpList_append_fits _ rfl (.tmp 44) (.tmp 53) 29 rfl base 5 i0 1 Tryd.underlying29 hi hz1 g (k + 0) cap _ rfl (hwr.alloc _) ⟨wr.heap.size, 0, none⟩ 1 1 [.int .u8 (row[q]'(by omega)).toNat] rfl rfl (by intro t u ht; match t, ht with | 0, ht => simp at ht; subst ht; simp [Addr.add]) (by intro u hu; simp at hu; subst hu; rfl) (by omega) ?_; intro w1 hown1 hgrow1)
      go_roundw
      case rel =>
        refine ⟨1, by omega, rfl, rfl, ?_, (hbl.alloc (Nat.le_trans hbase hbl.size) _).grown hgrow1 (by have := hbl.size; simp; omega) (fun k hk => by cases hk; exact hg)⟩
        rw [Hs.out, ← List.append_assoc, List.map_append, List.map_singleton, ← Hr.out (by omega)]
        exact hown1
      case measure => simp [intOf]
    · have hb := HN.out.2.1
      have hq := dg_lt N 1
      have Hs : Hid (sg row N 2 = sg row N 1 ++ [at6 row (dg N 1)]) := sg_succ row N 1
      have Hr : Hid (∀ h : dg N 1 < row.size, row[dg N 1] = at6 row (dg N 1)) := fun h => at6_get row _ h
      generalize dg N 1 = q at hb hq Hs Hr
      go_wp2_with (at_builtin; refine wpList_append_fits _ rfl (.tmp 44) (.tmp 53) 29 rfl base 5 i0 1 Tryd.underlying29 hi hz1 g (k + 1) cap _ rfl (hwr.alloc _) ⟨wr.heap.size, 0, none⟩ 1 1 [.int .u8 (row[q]'(by omega)).toNat] rfl rfl (by intro t u ht; match t, ht with | 0, ht => simp at ht; subst ht; simp [Addr.add]) (by intro u hu; simp at hu; subst hu; rfl) (by omega) ?_; intro w1 hown1 hgrow1)
      go_roundw
      case rel =>
        refine ⟨2, by omega, rfl, rfl, ?_, (hbl.alloc (Nat.le_trans hbase hbl.size) _).grown hgrow1 (by have := hbl.size; simp; omega) (fun k hk => by cases hk; exact hg)⟩
        rw [Hs.out, ← List.append_assoc, List.map_append, List.map_singleton, ← Hr.out (by omega)]
        exact hown1
      case measure => simp [intOf]
    · have hb := HN.out.2.2.1
      have hq := dg_lt N 2
      have Hs : Hid (sg row N 3 = sg row N 2 ++ [at6 row (dg N 2)]) := sg_succ row N 2
      have Hr : Hid (∀ h : dg N 2 < row.size, row[dg N 2] = at6 row (dg N 2)) := fun h => at6_get row _ h
      generalize dg N 2 = q at hb hq Hs Hr
      go_wp2_with (at_builtin; refine wpList_append_fits _ rfl (.tmp 44) (.tmp 53) 29 rfl base 5 i0 1 Tryd.underlying29 hi hz1 g (k + 2) cap _ rfl (hwr.alloc _) ⟨wr.heap.size, 0, none⟩ 1 1 [.int .u8 (row[q]'(by omega)).toNat] rfl rfl (by intro t u ht; match t, ht with | 0, ht => simp at ht; subst ht; simp [Addr.add]) (by intro u hu; simp at hu; subst hu; rfl) (by omega) ?_; intro w1 hown1 hgrow1)
      go_roundw
      case rel =>
        refine ⟨3, by omega, rfl, rfl, ?_, (hbl.alloc (Nat.le_trans hbase hbl.size) _).grown hgrow1 (by have := hbl.size; simp; omega) (fun k hk => by cases hk; exact hg)⟩
        rw [Hs.out, ← List.append_assoc, List.map_append, List.map_singleton, ← Hr.out (by omega)]
        exact hown1
      case measure => simp [intOf]
    · go_wp2
      go_ret
      exact ⟨rfl, hwr, hbl⟩

set_option maxHeartbeats 1000000 in
theorem grp3 (base g k cap b off c : Nat) (xs : List UInt8) (x y z : UInt8) (row : ByteArray) (w : World)
    (hown : w.ownsRow base 5 1 (.slice (some ⟨g, 0, none⟩) k cap) k (xs.map B)) (hfit : k + 4 ≤ cap) (hrow : row.size = 64) (hbase : base ≤ w.heap.size) (hg : base ≤ g)
    (h0 : w.cell? ⟨b, off, none⟩ = some (.int .u8 x.toNat)) (h1 : w.cell? ⟨b, off + 1, none⟩ = some (.int .u8 y.toNat)) (h2 : w.cell? ⟨b, off + 2, none⟩ = some (.int .u8 z.toNat)) :
    Calls Tryd.prog 25 #[.slice (some ⟨g, 0, none⟩) k cap, .slice (some ⟨b, off, none⟩) 3 c, .string row] w fun e w' =>
      e = .returned (.slice (some ⟨g, 0, none⟩) (k + 4) cap) ∧ w'.ownsRow base 5 1 (.slice (some ⟨g, 0, none⟩) (k + 4) cap) (k + 4) ((xs ++ sg row (x.toNat * 65536 + y.toNat * 256 + z.toNat) 4).map B) ∧ Below base w w' := by
  have b0 := x.toNat_lt; have b1 := y.toNat_lt; have b2 := z.toNat_lt
  obtain ⟨i0, hi, hz0, hz1, hz2⟩ := info_parts infoB
  obtain ⟨N, hN⟩ : ∃ N, N = x.toNat * 65536 + y.toNat * 256 + z.toNat := ⟨_, rfl⟩
  have HN : Hid (bits .and .u32 ((N : Int) / 262144) 63 = (dg N 0 : Int) ∧ bits .and .u32 ((N : Int) / 4096) 63 = (dg N 1 : Int) ∧ bits .and .u32 ((N : Int) / 64) 63 = (dg N 2 : Int) ∧ bits .and .u32 (N : Int) 63 = (dg N 3 : Int)) := andj N (by omega)
  have hNl : N < 16777216 := by omega
  have Hn : Hid (N = x.toNat * 65536 + y.toNat * 256 + z.toNat) := hN
  rw [← hN]
  clear hN
  go_enter Tryd.func25, Tryd.ntmps25
  go_wp2
  rw [or3 _ _ _ b0 b1 b2]
  rw [← Hn.out]
  clear h0 b0 h1 b1 h2 b2 Hn
  go_loopw [0, 41] (fun t s wr => ∃ j : Nat, j ≤ 4 ∧ s = .int .i64 j ∧ t = .slice (some ⟨g, 0, none⟩) (k + j) cap ∧ wr.ownsRow base 5 1 (.slice (some ⟨g, 0, none⟩) (k + j) cap) (k + j) ((xs ++ sg row N j).map B) ∧ Below base w wr)
    (fun _ s _ => 4 - (intOf s).toNat)
  case atStart => exact ⟨0, by omega, rfl, rfl, by simpa [sg] using hown, Below.refl _ _⟩
  case round =>
    obtain ⟨j, hj, rfl, rfl, hwr, hbl⟩ := hrel
    have hj' : j = 0 ∨ j = 1 ∨ j = 2 ∨ j = 3 ∨ j = 4 := by omega
    clear hown
    rcases hj' with rfl | rfl | rfl | rfl | rfl
    · have hb := HN.out.1
      have hq := dg_lt N 0
      have Hs : Hid (sg row N 1 = sg row N 0 ++ [at6 row (dg N 0)]) := sg_succ row N 0
      have Hr : Hid (∀ h : dg N 0 < row.size, row[dg N 0] = at6 row (dg N 0)) := fun h => at6_get row _ h
      generalize dg N 0 = q at hb hq Hs Hr
      go_wp2_with (at_builtin; refine wpList_append_fits _ rfl (.tmp 44) (.tmp 53) 29 rfl base 5 i0 1 Tryd.underlying29 hi hz1 g (k + 0) cap _ rfl (hwr.alloc _) ⟨wr.heap.size, 0, none⟩ 1 1 [.int .u8 (row[q]'(by omega)).toNat] rfl rfl (by intro t u ht; match t, ht with | 0, ht => simp at ht; subst ht; simp [Addr.add]) (by intro u hu; simp at hu; subst hu; rfl) (by omega) ?_; intro w1 hown1 hgrow1)
      go_roundw
      case rel =>
        refine ⟨1, by omega, rfl, rfl, ?_, (hbl.alloc (Nat.le_trans hbase hbl.size) _).grown hgrow1 (by have := hbl.size; simp; omega) (fun k hk => by cases hk; exact hg)⟩
        rw [Hs.out, ← List.append_assoc, List.map_append, List.map_singleton, ← Hr.out (by omega)]
        exact hown1
      case measure => simp [intOf]
    · have hb := HN.out.2.1
      have hq := dg_lt N 1
      have Hs : Hid (sg row N 2 = sg row N 1 ++ [at6 row (dg N 1)]) := sg_succ row N 1
      have Hr : Hid (∀ h : dg N 1 < row.size, row[dg N 1] = at6 row (dg N 1)) := fun h => at6_get row _ h
      generalize dg N 1 = q at hb hq Hs Hr
      go_wp2_with (at_builtin; refine wpList_append_fits _ rfl (.tmp 44) (.tmp 53) 29 rfl base 5 i0 1 Tryd.underlying29 hi hz1 g (k + 1) cap _ rfl (hwr.alloc _) ⟨wr.heap.size, 0, none⟩ 1 1 [.int .u8 (row[q]'(by omega)).toNat] rfl rfl (by intro t u ht; match t, ht with | 0, ht => simp at ht; subst ht; simp [Addr.add]) (by intro u hu; simp at hu; subst hu; rfl) (by omega) ?_; intro w1 hown1 hgrow1)
      go_roundw
      case rel =>
        refine ⟨2, by omega, rfl, rfl, ?_, (hbl.alloc (Nat.le_trans hbase hbl.size) _).grown hgrow1 (by have := hbl.size; simp; omega) (fun k hk => by cases hk; exact hg)⟩
        rw [Hs.out, ← List.append_assoc, List.map_append, List.map_singleton, ← Hr.out (by omega)]
        exact hown1
      case measure => simp [intOf]
    · have hb := HN.out.2.2.1
      have hq := dg_lt N 2
      have Hs : Hid (sg row N 3 = sg row N 2 ++ [at6 row (dg N 2)]) := sg_succ row N 2
      have Hr : Hid (∀ h : dg N 2 < row.size, row[dg N 2] = at6 row (dg N 2)) := fun h => at6_get row _ h
      generalize dg N 2 = q at hb hq Hs Hr
      go_wp2_with (at_builtin; refine wpList_append_fits _ rfl (.tmp 44) (.tmp 53) 29 rfl base 5 i0 1 Tryd.underlying29 hi hz1 g (k + 2) cap _ rfl (hwr.alloc _) ⟨wr.heap.size, 0, none⟩ 1 1 [.int .u8 (row[q]'(by omega)).toNat] rfl rfl (by intro t u ht; match t, ht with | 0, ht => simp at ht; subst ht; simp [Addr.add]) (by intro u hu; simp at hu; subst hu; rfl) (by omega) ?_; intro w1 hown1 hgrow1)
      go_roundw
      case rel =>
        refine ⟨3, by omega, rfl, rfl, ?_, (hbl.alloc (Nat.le_trans hbase hbl.size) _).grown hgrow1 (by have := hbl.size; simp; omega) (fun k hk => by cases hk; exact hg)⟩
        rw [Hs.out, ← List.append_assoc, List.map_append, List.map_singleton, ← Hr.out (by omega)]
        exact hown1
      case measure => simp [intOf]
    · have hb := HN.out.2.2.2
      have hq := dg_lt N 3
      have Hs : Hid (sg row N 4 = sg row N 3 ++ [at6 row (dg N 3)]) := sg_succ row N 3
      have Hr : Hid (∀ h : dg N 3 < row.size, row[dg N 3] = at6 row (dg N 3)) := fun h => at6_get row _ h
      generalize dg N 3 = q at hb hq Hs Hr
      go_wp2_with (at_builtin; refine wpList_append_fits _ rfl (.tmp 44) (.tmp 53) 29 rfl base 5 i0 1 Tryd.underlying29 hi hz1 g (k + 3) cap _ rfl (hwr.alloc _) ⟨wr.heap.size, 0, none⟩ 1 1 [.int .u8 (row[q]'(by omega)).toNat] rfl rfl (by intro t u ht; match t, ht with | 0, ht => simp at ht; subst ht; simp [Addr.add]) (by intro u hu; simp at hu; subst hu; rfl) (by omega) ?_; intro w1 hown1 hgrow1)
      go_roundw
      case rel =>
        refine ⟨4, by omega, rfl, rfl, ?_, (hbl.alloc (Nat.le_trans hbase hbl.size) _).grown hgrow1 (by have := hbl.size; simp; omega) (fun k hk => by cases hk; exact hg)⟩
        rw [Hs.out, ← List.append_assoc, List.map_append, List.map_singleton, ← Hr.out (by omega)]
        exact hown1
      case measure => simp [intOf]
    · go_wp2
      go_ret
      exact ⟨rfl, hwr, hbl⟩

set_option maxHeartbeats 400000 in
theorem grp0 (t : Value) (ao : Option Addr) (c : Nat) (row : ByteArray) (w : World) :
    Calls Tryd.prog 25 #[t, .slice ao 0 c, .string row] w fun e w' => e = .returned t ∧ w' = w := by
  go_enter Tryd.func25, Tryd.ntmps25
  go_wp2
  go_ret
  exact ⟨rfl, rfl⟩

end Go.Proofs.YtpfdaclmchcbiaaDoor.B64