import Derived.Test.YtdhfjhdlimmjhaaGreatDoorRows
import Derived.WalkKit
import Derived.WalkSpells
import Derived.WalkLawsBesides
namespace Go.Proofs.YtdhfjhdlimmjhaaGreatDoor.B64
open Go.RowKit
set_option maxRecDepth 100000

theorem infoB : (Tryz.prog.info? 5).map (fun i => (i.zero, i.size, i.bytes)) = some (some (.int .u8 0), 1, 1) := by kernel_rfl

def B (c : UInt8) : Value := .int .u8 c.toNat

def at6 (row : ByteArray) (q : Nat) : UInt8 := row.data.toList.getD q 0

def dg (N j : Nat) : Nat := N / 64 ^ (3 - j) % 64

def sg (row : ByteArray) (N n : Nat) : List UInt8 := (List.range n).map fun j => at6 row (dg N j)

theorem dg_lt (N j : Nat) : dg N j < 64 := Nat.mod_lt _ (by decide)

theorem sg_succ (row : ByteArray) (N n : Nat) : sg row N (n + 1) = sg row N n ++ [at6 row (dg N n)] := by
  simp [sg, List.range_succ]

theorem sg_length (row : ByteArray) (N n : Nat) : (sg row N n).length = n := by simp [sg]

theorem at6_get (row : ByteArray) (q : Nat) (h : q < row.size) : row[q] = at6 row q := by
  have h' : q < row.data.toList.length := by simpa using h
  unfold at6
  rw [List.getD_eq_getElem?_getD, List.getElem?_eq_getElem h', Option.getD_some, Array.getElem_toList]
  rfl

theorem or3 (x y z : Nat) (hx : x < 256) (hy : y < 256) (hz : z < 256) : bits .or .u32 (bits .or .u32 (bits .or .u32 0 (z : Int)) ((y : Int) * 256)) ((x : Int) * 65536) = ((x * 65536 + y * 256 + z : Nat) : Int) := by
  have e2 : ((y : Int) * 256) = ((y * 256 : Nat) : Int) := by omega
  have e3 : ((x : Int) * 65536) = ((x * 65536 : Nat) : Int) := by omega
  have e0 : (0 : Int) = ((0 : Nat) : Int) := rfl
  rw [e2, e3, e0, u32_or_nat 0 z (by omega) (by omega), Nat.zero_or, u32_or_nat z (y * 256) (by omega) (by omega), Nat.or_comm z, nat_join 8 (y * 256) z (by omega) (by omega),
    u32_or_nat (y * 256 + z) (x * 65536) (by omega) (by omega), Nat.or_comm, nat_join 16 (x * 65536) (y * 256 + z) (by omega) (by omega), Nat.add_assoc]

theorem or2 (x y : Nat) (hx : x < 256) (hy : y < 256) : bits .or .u32 (bits .or .u32 0 ((y : Int) * 256)) ((x : Int) * 65536) = ((x * 65536 + y * 256 : Nat) : Int) := by
  have e2 : ((y : Int) * 256) = ((y * 256 : Nat) : Int) := by omega
  have e3 : ((x : Int) * 65536) = ((x * 65536 : Nat) : Int) := by omega
  have e0 : (0 : Int) = ((0 : Nat) : Int) := rfl
  rw [e2, e3, e0, u32_or_nat 0 (y * 256) (by omega) (by omega), Nat.zero_or, u32_or_nat (y * 256) (x * 65536) (by omega) (by omega), Nat.or_comm, nat_join 16 (x * 65536) (y * 256) (by omega) (by omega)]

theorem or1 (x : Nat) (hx : x < 256) : bits .or .u32 0 ((x : Int) * 65536) = ((x * 65536 : Nat) : Int) := by
  have e3 : ((x : Int) * 65536) = ((x * 65536 : Nat) : Int) := by omega
  have e0 : (0 : Int) = ((0 : Nat) : Int) := rfl
  rw [e3, e0, u32_or_nat 0 (x * 65536) (by omega) (by omega), Nat.zero_or]

theorem and63 (M : Nat) (h : M < 4294967296) : bits .and .u32 (M : Int) 63 = ((M % 64 : Nat) : Int) := by
  have e : (63 : Int) = ((63 : Nat) : Int) := rfl
  rw [e, u32_and_nat M 63 h (by omega), nat_mask6]

theorem andj (N : Nat) (h : N < 16777216) : bits .and .u32 ((N : Int) / 262144) 63 = (dg N 0 : Int) ∧ bits .and .u32 ((N : Int) / 4096) 63 = (dg N 1 : Int) ∧ bits .and .u32 ((N : Int) / 64) 63 = (dg N 2 : Int) ∧ bits .and .u32 (N : Int) 63 = (dg N 3 : Int) := by
  have e0 : ((N : Int) / 262144) = ((N / 262144 : Nat) : Int) := by omega
  have e1 : ((N : Int) / 4096) = ((N / 4096 : Nat) : Int) := by omega
  have e2 : ((N : Int) / 64) = ((N / 64 : Nat) : Int) := by omega
  rw [e0, e1, e2, and63 _ (by omega), and63 _ (by omega), and63 _ (by omega), and63 _ (by omega)]
  simp [dg]

theorem oneB (l : List UInt8) : ∀ u ∈ l.map B, u.oneCell' = true := by
  intro u hu
  obtain ⟨_, _, rfl⟩ := List.mem_map.1 hu
  rfl

end Go.Proofs.YtdhfjhdlimmjhaaGreatDoor.B64
namespace Go.Proofs.YtdhfjhdlimmjhaaGreatDoor.B64
open Go.RowKit
set_option maxRecDepth 100000

set_option maxHeartbeats 1000000 in
theorem grp1 (base g k cap b off c : Nat) (xs : List UInt8) (x : UInt8) (row : ByteArray) (w : World)
    (hown : w.ownsRow base 5 1 (.slice (some ⟨g, 0, none⟩) k cap) k (xs.map B)) (hfit : k + 2 ≤ cap) (hrow : row.size = 64) (hbase : base ≤ w.heap.size) (hg : base ≤ g)
    (h0 : w.cell? ⟨b, off, none⟩ = some (.int .u8 x.toNat)) :
    Calls Tryz.prog 97 #[.slice (some ⟨g, 0, none⟩) k cap, .slice (some ⟨b, off, none⟩) 1 c, .string row] w fun e w' =>
      e = .returned (.slice (some ⟨g, 0, none⟩) (k + 2) cap) ∧ w'.ownsRow base 5 1 (.slice (some ⟨g, 0, none⟩) (k + 2) cap) (k + 2) ((xs ++ sg row (x.toNat * 65536) 2).map B) ∧ Below base w w' := by
  have b0 := x.toNat_lt
  obtain ⟨i0, hi, hz0, hz1, hz2⟩ := info_parts infoB
  obtain ⟨N, hN⟩ : ∃ N, N = x.toNat * 65536 := ⟨_, rfl⟩
  have HN : Hid (bits .and .u32 ((N : Int) / 262144) 63 = (dg N 0 : Int) ∧ bits .and .u32 ((N : Int) / 4096) 63 = (dg N 1 : Int) ∧ bits .and .u32 ((N : Int) / 64) 63 = (dg N 2 : Int) ∧ bits .and .u32 (N : Int) 63 = (dg N 3 : Int)) := andj N (by omega)
  have hNl : N < 16777216 := by omega
  have Hn : Hid (N = x.toNat * 65536) := hN
  rw [← hN]
  clear hN
  go_enter Tryz.func97, Tryz.ntmps97
  go_wp2
  rw [or1 _ b0]
  rw [← Hn.out]
  clear h0 b0 Hn
  go_loopw [0, 41] (fun t s wr => ∃ j : Nat, j ≤ 2 ∧ s = .int .i64 j ∧ t = .slice (some ⟨g, 0, none⟩) (k + j) cap ∧ wr.ownsRow base 5 1 (.slice (some ⟨g, 0, none⟩) (k + j) cap) (k + j) ((xs ++ sg row N j).map B) ∧ Below base w wr)
    (fun _ s _ => 2 - (intOf s).toNat)
  case atStart => exact ⟨0, by omega, rfl, rfl, by simpa [sg] using hown, Below.refl _ _⟩
  case round =>
    obtain ⟨j, hj, rfl, rfl, hwr, hbl⟩ := hrel
    have hj' : j = 0 ∨ j = 1 ∨ j = 2 := by omega
    clear hown
    rcases hj' with rfl | rfl | rfl
    · have hb := HN.out.1
      have hq := dg_lt N 0
      have Hs : Hid (sg row N 1 = sg row N 0 ++ [at6 row (dg N 0)]) := sg_succ row N 0
      have Hr : Hid (∀ h : dg N 0 < row.size, row[dg N 0] = at6 row (dg N 0)) := fun h => at6_get row _ h
      generalize dg N 0 = q at hb hq Hs Hr
      go_wp2_with (at_builtin; refine wpList_append_fits _ rfl (.tmp 44) (.tmp 53) 81 rfl base 5 i0 1 Tryz.underlying81 hi hz1 g (k + 0) cap _ rfl (hwr.alloc _) ⟨wr.heap.size, 0, none⟩ 1 1 [.int .u8 (row[q]'(by omega)).toNat] rfl rfl (by intro t u ht; match t, ht with | 0, ht => simp at ht; subst ht; simp [Addr.add]) (by intro u hu; simp at hu; subst hu; rfl) (by omega) ?_; intro w1 hown1 hgrow1)
      go_roundw
      case rel =>
        refine ⟨1, by omega, rfl, rfl, ?_, (hbl.alloc (Nat.le_trans hbase hbl.size) _).grown hgrow1 (by have := hbl.size; simp; omega) (fun k hk => by cases hk; exact hg)⟩
        rw [Hs.out, ← List.append_assoc, List.map_append, List.map_singleton, ← Hr.out (by omega)]
        exact hown1
      case measure => simp [intOf]
    · have hb := HN.out.2.1
      have hq := dg_lt N 1
      have Hs : Hid (sg row N 2 = sg row N 1 ++ [at6 row (dg N 1)]) := sg_succ row N 1
      have Hr : Hid (∀ h : dg N 1 < row.size, row[dg N 1] = at6 row (dg N 1)) := fun h => at6_get row _ h
      generalize dg N 1 = q at hb hq Hs Hr
      go_wp2_with (at_builtin; refine wpList_append_fits _ rfl (.tmp 44) (.tmp 53) 81 rfl base 5 i0 1 Tryz.underlying81 hi hz1 g (k + 1) cap _ rfl (hwr.alloc _) ⟨wr.heap.size, 0, none⟩ 1 1 [.int .u8 (row[q]'(by omega)).toNat] rfl rfl (by intro t u ht; match t, ht with | 0, ht => simp at ht; subst ht; simp [Addr.add]) (by intro u hu; simp at hu; subst hu; rfl) (by omega) ?_; intro w1 hown1 hgrow1)
      go_roundw
      case rel =>
        refine ⟨2, by omega, rfl, rfl, ?_, (hbl.alloc (Nat.le_trans hbase hbl.size) _).grown hgrow1 (by have := hbl.size; simp; omega) (fun k hk => by cases hk; exact hg)⟩
        rw [Hs.out, ← List.append_assoc, List.map_append, List.map_singleton, ← Hr.out (by omega)]
        exact hown1
      case measure => simp [intOf]
    · go_wp2
      go_ret
      exact ⟨rfl, hwr, hbl⟩

set_option maxHeartbeats 1000000 in
theorem grp2 (base g k cap b off c : Nat) (xs : List UInt8) (x y : UInt8) (row : ByteArray) (w : World)
    (hown : w.ownsRow base 5 1 (.slice (some ⟨g, 0, none⟩) k cap) k (xs.map B)) (hfit : k + 3 ≤ cap) (hrow : row.size = 64) (hbase : base ≤ w.heap.size) (hg : base ≤ g)
    (h0 : w.cell? ⟨b, off, none⟩ = some (.int .u8 x.toNat)) (h1 : w.cell? ⟨b, off + 1, none⟩ = some (.int .u8 y.toNat)) :
    Calls Tryz.prog 97 #[.slice (some ⟨g, 0, none⟩) k cap, .slice (some ⟨b, off, none⟩) 2 c, .string row] w fun e w' =>
      e = .returned (.slice (some ⟨g, 0, none⟩) (k + 3) cap) ∧ w'.ownsRow base 5 1 (.slice (some ⟨g, 0, none⟩) (k + 3) cap) (k + 3) ((xs ++ sg row (x.toNat * 65536 + y.toNat * 256) 3).map B) ∧ Below base w w' := by
  have b0 := x.toNat_lt; have b1 := y.toNat_lt
  obtain ⟨i0, hi, hz0, hz1, hz2⟩ := info_parts infoB
  obtain ⟨N, hN⟩ : ∃ N, N = x.toNat * 65536 + y.toNat * 256 := ⟨_, rfl⟩
  have HN : Hid (bits .and .u32 ((N : Int) / 262144) 63 = (dg N 0 : Int) ∧ bits .and .u32 ((N : Int) / 4096) 63 = (dg N 1 : Int) ∧ bits .and .u32 ((N : Int) / 64) 63 = (dg N 2 : Int) ∧ bits .and .u32 (N : Int) 63 = (dg N 3 : Int)) := andj N (by omega)
  have hNl : N < 16777216 := by omega
  have Hn : Hid (N = x.toNat * 65536 + y.toNat * 256) := hN
  rw [← hN]
  clear hN
  go_enter Tryz.func97, Tryz.ntmps97
  go_wp2
  rw [or2 _ _ b0 b1]
  rw [← Hn.out]
  clear h0 b0 h1 b1 Hn
  go_loopw [0, 41] (fun t s wr => ∃ j : Nat, j ≤ 3 ∧ s = .int .i64 j ∧ t = .slice (some ⟨g, 0, none⟩) (k + j) cap ∧ wr.ownsRow base 5 1 (.slice (some ⟨g, 0, none⟩) (k + j) cap) (k + j) ((xs ++ sg row N j).map B) ∧ Below base w wr)
    (fun _ s _ => 3 - (intOf s).toNat)
  case atStart => exact ⟨0, by omega, rfl, rfl, by simpa [sg] using hown, Below.refl _ _⟩
  case round =>
    obtain ⟨j, hj, rfl, rfl, hwr, hbl⟩ := hrel
    have hj' : j = 0 ∨ j = 1 ∨ j = 2 ∨ j = 3 := by omega
    clear hown
    rcases hj' with rfl | rfl | rfl | rfl
    · have hb := HN.out.1
      have hq := dg_lt N 0
      have Hs : Hid (sg row N 1 = sg row N 0 ++ [at6 row (dg N 0)]) := sg_succ row N 0
      have Hr : Hid (∀ h : dg N 0 < row.size, row[dg N 0] = at6 row (dg N 0)) := fun h => at6_get row _ h
      generalize dg N 0 = q at hb hq Hs Hr
      go_wp2_with (at_builtin; refine wpList_append_fits _ rfl (.tmp 44) (.tmp 53) 81 rfl base 5 i0 1 Tryz.underlying81 hi hz1 g (k + 0) cap _ rfl (hwr.alloc _) ⟨wr.heap.size, 0, none⟩ 1 1 [.int .u8 (row[q]'(by omega)).toNat] rfl rfl (by intro t u ht; match t, ht with | 0, ht => simp at ht; subst ht; simp [Addr.add]) (by intro u hu; simp at hu; subst hu; rfl) (by omega) ?_; intro w1 hown1 hgrow1)
      go_roundw
      case rel =>
        refine ⟨1, by omega, rfl, rfl, ?_, (hbl.alloc (Nat.le_trans hbase hbl.size) _).grown hgrow1 (by have := hbl.size; simp; omega) (fun k hk => by cases hk; exact hg)⟩
        rw [Hs.out, ← List.append_assoc, List.map_append, List.map_singleton, ← Hr.out (by omega)]
        exact hown1
      case measure => simp [intOf]
    · have hb := HN.out.2.1
      have hq := dg_lt N 1
      have Hs : Hid (sg row N 2 = sg row N 1 ++ [at6 row (dg N 1)]) := sg_succ row N 1
      have Hr : Hid (∀ h : dg N 1 < row.size, row[dg N 1] = at6 row (dg N 1)) := fun h => at6_get row _ h
      generalize dg N 1 = q at hb hq Hs Hr
      go_wp2_with (at_builtin; refine wpList_append_fits _ rfl (.tmp 44) (.tmp 53) 81 rfl base 5 i0 1 Tryz.underlying81 hi hz1 g (k + 1) cap _ rfl (hwr.alloc _) ⟨wr.heap.size, 0, none⟩ 1 1 [.int .u8 (row[q]'(by omega)).toNat] rfl rfl (by intro t u ht; match t, ht with | 0, ht => simp at ht; subst ht; simp [Addr.add]) (by intro u hu; simp at hu; subst hu; rfl) (by omega) ?_; intro w1 hown1 hgrow1)
      go_roundw
      case rel =>
        refine ⟨2, by omega, rfl, rfl, ?_, (hbl.alloc (Nat.le_trans hbase hbl.size) _).grown hgrow1 (by have := hbl.size; simp; omega) (fun k hk => by cases hk; exact hg)⟩
        rw [Hs.out, ← List.append_assoc, List.map_append, List.map_singleton, ← Hr.out (by omega)]
        exact hown1
      case measure => simp [intOf]
    · have hb := HN.out.2.2.1
      have hq := dg_lt N 2
      have Hs : Hid (sg row N 3 = sg row N 2 ++ [at6 row (dg N 2)]) := sg_succ row N 2
      have Hr : Hid (∀ h : dg N 2 < row.size, row[dg N 2] = at6 row (dg N 2)) := fun h => at6_get row _ h
      generalize dg N 2 = q at hb hq Hs Hr
      go_wp2_with (at_builtin; refine wpList_append_fits _ rfl (.tmp 44) (.tmp 53) 81 rfl base 5 i0 1 Tryz.underlying81 hi hz1 g (k + 2) cap _ rfl (hwr.alloc _) ⟨wr.heap.size, 0, none⟩ 1 1 [.int .u8 (row[q]'(by omega)).toNat] rfl rfl (by intro t u ht; match t, ht with | 0, ht => simp at ht; subst ht; simp [Addr.add]) (by intro u hu; simp at hu; subst hu; rfl) (by omega) ?_; intro w1 hown1 hgrow1)
      go_roundw
      case rel =>
        refine ⟨3, by omega, rfl, rfl, ?_, (hbl.alloc (Nat.le_trans hbase hbl.size) _).grown hgrow1 (by have := hbl.size; simp; omega) (fun k hk => by cases hk; exact hg)⟩
        rw [Hs.out, ← List.append_assoc, List.map_append, List.map_singleton, ← Hr.out (by omega)]
        exact hown1
      case measure => simp [intOf]
    · go_wp2
      go_ret
      exact ⟨rfl, hwr, hbl⟩

set_option maxHeartbeats 1000000 in
theorem grp3 (base g k cap b off c : Nat) (xs : List UInt8) (x y z : UInt8) (row : ByteArray) (w : World)
    (hown : w.ownsRow base 5 1 (.slice (some ⟨g, 0, none⟩) k cap) k (xs.map B)) (hfit : k + 4 ≤ cap) (hrow : row.size = 64) (hbase : base ≤ w.heap.size) (hg : base ≤ g)
    (h0 : w.cell? ⟨b, off, none⟩ = some (.int .u8 x.toNat)) (h1 : w.cell? ⟨b, off + 1, none⟩ = some (.int .u8 y.toNat)) (h2 : w.cell? ⟨b, off + 2, none⟩ = some (.int .u8 z.toNat)) :
    Calls Tryz.prog 97 #[.slice (some ⟨g, 0, none⟩) k cap, .slice (some ⟨b, off, none⟩) 3 c, .string row] w fun e w' =>
      e = .returned (.slice (some ⟨g, 0, none⟩) (k + 4) cap) ∧ w'.ownsRow base 5 1 (.slice (some ⟨g, 0, none⟩) (k + 4) cap) (k + 4) ((xs ++ sg row (x.toNat * 65536 + y.toNat * 256 + z.toNat) 4).map B) ∧ Below base w w' := by
  have b0 := x.toNat_lt; have b1 := y.toNat_lt; have b2 := z.toNat_lt
  obtain ⟨i0, hi, hz0, hz1, hz2⟩ := info_parts infoB
  obtain ⟨N, hN⟩ : ∃ N, N = x.toNat * 65536 + y.toNat * 256 + z.toNat := ⟨_, rfl⟩
  have HN : Hid (bits .and .u32 ((N : Int) / 262144) 63 = (dg N 0 : Int) ∧ bits .and .u32 ((N : Int) / 4096) 63 = (dg N 1 : Int) ∧ bits .and .u32 ((N : Int) / 64) 63 = (dg N 2 : Int) ∧ bits .and .u32 (N : Int) 63 = (dg N 3 : Int)) := andj N (by omega)
  have hNl : N < 16777216 := by omega
  have Hn : Hid (N = x.toNat * 65536 + y.toNat * 256 + z.toNat) := hN
  rw [← hN]
  clear hN
  go_enter Tryz.func97, Tryz.ntmps97
  go_wp2
  rw [or3 _ _ _ b0 b1 b2]
  rw [← Hn.out]
  clear h0 b0 h1 b1 h2 b2 Hn
  go_loopw [0, 41] (fun t s wr => ∃ j : Nat, j ≤ 4 ∧ s = .int .i64 j ∧ t = .slice (some ⟨g, 0, none⟩) (k + j) cap ∧ wr.ownsRow base 5 1 (.slice (some ⟨g, 0, none⟩) (k + j) cap) (k + j) ((xs ++ sg row N j).map B) ∧ Below base w wr)
    (fun _ s _ => 4 - (intOf s).toNat)
  case atStart => exact ⟨0, by omega, rfl, rfl, by simpa [sg] using hown, Below.refl _ _⟩
  case round =>
    obtain ⟨j, hj, rfl, rfl, hwr, hbl⟩ := hrel
    have hj' : j = 0 ∨ j = 1 ∨ j = 2 ∨ j = 3 ∨ j = 4 := by omega
    clear hown
    rcases hj' with rfl | rfl | rfl | rfl | rfl
    · have hb := HN.out.1
      have hq := dg_lt N 0
      have Hs : Hid (sg row N 1 = sg row N 0 ++ [at6 row (dg N 0)]) := sg_succ row N 0
      have Hr : Hid (∀ h : dg N 0 < row.size, row[dg N 0] = at6 row (dg N 0)) := fun h => at6_get row _ h
      generalize dg N 0 = q at hb hq Hs Hr
      go_wp2_with (at_builtin; refine wpList_append_fits _ rfl (.tmp 44) (.tmp 53) 81 rfl base 5 i0 1 Tryz.underlying81 hi hz1 g (k + 0) cap _ rfl (hwr.alloc _) ⟨wr.heap.size, 0, none⟩ 1 1 [.int .u8 (row[q]'(by omega)).toNat] rfl rfl (by intro t u ht; match t, ht with | 0, ht => simp at ht; subst ht; simp [Addr.add]) (by intro u hu; simp at hu; subst hu; rfl) (by omega) ?_; intro w1 hown1 hgrow1)
      go_roundw
      case rel =>
        refine ⟨1, by omega, rfl, rfl, ?_, (hbl.alloc (Nat.le_trans hbase hbl.size) _).grown hgrow1 (by have := hbl.size; simp; omega) (fun k hk => by cases hk; exact hg)⟩
        rw [Hs.out, ← List.append_assoc, List.map_append, List.map_singleton, ← Hr.out (by omega)]
        exact hown1
      case measure => simp [intOf]
    · have hb := HN.out.2.1
      have hq := dg_lt N 1
      have Hs : Hid (sg row N 2 = sg row N 1 ++ [at6 row (dg N 1)]) := sg_succ row N 1
      have Hr : Hid (∀ h : dg N 1 < row.size, row[dg N 1] = at6 row (dg N 1)) := fun h => at6_get row _ h
      generalize dg N 1 = q at hb hq Hs Hr
      go_wp2_with (at_builtin; refine wpList_append_fits _ rfl (.tmp 44) (.tmp 53) 81 rfl base 5 i0 1 Tryz.underlying81 hi hz1 g (k + 1) cap _ rfl (hwr.alloc _) ⟨wr.heap.size, 0, none⟩ 1 1 [.int .u8 (row[q]'(by omega)).toNat] rfl rfl (by intro t u ht; match t, ht with | 0, ht => simp at ht; subst ht; simp [Addr.add]) (by intro u hu; simp at hu; subst hu; rfl) (by omega) ?_; intro w1 hown1 hgrow1)
      go_roundw
      case rel =>
        refine ⟨2, by omega, rfl, rfl, ?_, (hbl.alloc (Nat.le_trans hbase hbl.size) _).grown hgrow1 (by have := hbl.size; simp; omega) (fun k hk => by cases hk; exact hg)⟩
        rw [Hs.out, ← List.append_assoc, List.map_append, List.map_singleton, ← Hr.out (by omega)]
        exact hown1
      case measure => simp [intOf]
    · have hb := HN.out.2.2.1
      have hq := dg_lt N 2
      have Hs : Hid (sg row N 3 = sg row N 2 ++ [at6 row (dg N 2)]) := sg_succ row N 2
      have Hr : Hid (∀ h : dg N 2 < row.size, row[dg N 2] = at6 row (dg N 2)) := fun h => at6_get row _ h
      generalize dg N 2 = q at hb hq Hs Hr
      go_wp2_with (at_builtin; refine wpList_append_fits _ rfl (.tmp 44) (.tmp 53) 81 rfl base 5 i0 1 Tryz.underlying81 hi hz1 g (k + 2) cap _ rfl (hwr.alloc _) ⟨wr.heap.size, 0, none⟩ 1 1 [.int .u8 (row[q]'(by omega)).toNat] rfl rfl (by intro t u ht; match t, ht with | 0, ht => simp at ht; subst ht; simp [Addr.add]) (by intro u hu; simp at hu; subst hu; rfl) (by omega) ?_; intro w1 hown1 hgrow1)
      go_roundw
      case rel =>
        refine ⟨3, by omega, rfl, rfl, ?_, (hbl.alloc (Nat.le_trans hbase hbl.size) _).grown hgrow1 (by have := hbl.size; simp; omega) (fun k hk => by cases hk; exact hg)⟩
        rw [Hs.out, ← List.append_assoc, List.map_append, List.map_singleton, ← Hr.out (by omega)]
        exact hown1
      case measure => simp [intOf]
    · have hb := HN.out.2.2.2
      have hq := dg_lt N 3
      have Hs : Hid (sg row N 4 = sg row N 3 ++ [at6 row (dg N 3)]) := sg_succ row N 3
      have Hr : Hid (∀ h : dg N 3 < row.size, row[dg N 3] = at6 row (dg N 3)) := fun h => at6_get row _ h
      generalize dg N 3 = q at hb hq Hs Hr
      go_wp2_with (at_builtin; refine wpList_append_fits _ rfl (.tmp 44) (.tmp 53) 81 rfl base 5 i0 1 Tryz.underlying81 hi hz1 g (k + 3) cap _ rfl (hwr.alloc _) ⟨wr.heap.size, 0, none⟩ 1 1 [.int .u8 (row[q]'(by omega)).toNat] rfl rfl (by intro t u ht; match t, ht with | 0, ht => simp at ht; subst ht; simp [Addr.add]) (by intro u hu; simp at hu; subst hu; rfl) (by omega) ?_; intro w1 hown1 hgrow1)
      go_roundw
      case rel =>
        refine ⟨4, by omega, rfl, rfl, ?_, (hbl.alloc (Nat.le_trans hbase hbl.size) _).grown hgrow1 (by have := hbl.size; simp; omega) (fun k hk => by cases hk; exact hg)⟩
        rw [Hs.out, ← List.append_assoc, List.map_append, List.map_singleton, ← Hr.out (by omega)]
        exact hown1
      case measure => simp [intOf]
    · go_wp2
      go_ret
      exact ⟨rfl, hwr, hbl⟩

set_option maxHeartbeats 400000 in
theorem grp0 (t : Value) (ao : Option Addr) (c : Nat) (row : ByteArray) (w : World) :
    Calls Tryz.prog 97 #[t, .slice ao 0 c, .string row] w fun e w' => e = .returned t ∧ w' = w := by
  go_enter Tryz.func97, Tryz.ntmps97
  go_wp2
  go_ret
  exact ⟨rfl, rfl⟩

end Go.Proofs.YtdhfjhdlimmjhaaGreatDoor.B64
namespace Go.Proofs.YtdhfjhdlimmjhaaGreatDoor.B64
open Go.RowKit
set_option maxRecDepth 100000

def enc (row : ByteArray) : List UInt8 → List UInt8
  | [] => []
  | [x] => sg row (x.toNat * 65536) 2
  | [x, y] => sg row (x.toNat * 65536 + y.toNat * 256) 3
  | x :: y :: z :: r => sg row (x.toNat * 65536 + y.toNat * 256 + z.toNat) 4 ++ enc row r

theorem enc_cons3 (row : ByteArray) (x y z : UInt8) (r : List UInt8) : enc row (x :: y :: z :: r) = sg row (x.toNat * 65536 + y.toNat * 256 + z.toNat) 4 ++ enc row r := by rw [enc]

def Rd (w : World) (ao : Option Addr) (l : List UInt8) : Prop :=
  l = [] ∨ ∃ b off, ao = some ⟨b, off, none⟩ ∧ b < w.heap.size ∧ ∀ j, j < l.length → w.cell? ⟨b, off + j, none⟩ = some (B (l.getD j 0))

theorem Rd.below {B' : Nat} {w w' : World} {ao : Option Addr} {l : List UInt8} (h : Rd w ao l) (hb : Below B' w w') (hB : w.heap.size ≤ B') : Rd w' ao l := by
  rcases h with h | ⟨b, off, e, hlt, hc⟩
  · exact .inl h
  · exact .inr ⟨b, off, e, Nat.lt_of_lt_of_le hlt hb.size, fun j hj => by rw [hb.cell (p := ⟨b, off + j, none⟩) (by show b < B'; omega)]; exact hc j hj⟩

def sliceN : Value → Nat
  | .slice _ n _ => n
  | _ => 0

theorem one {l : List UInt8} (h : l.length = 1) : ∃ x, l = [x] := by
  match l, h with
  | [x], _ => exact ⟨x, rfl⟩

theorem two {l : List UInt8} (h : l.length = 2) : ∃ x y, l = [x, y] := by
  match l, h with
  | [x, y], _ => exact ⟨x, y, rfl⟩

theorem three {l : List UInt8} (h : 3 ≤ l.length) : ∃ x y z r, l = x :: y :: z :: r := by
  match l, h with
  | x :: y :: z :: r, _ => exact ⟨x, y, z, r, rfl⟩

set_option maxHeartbeats 1000000 in
theorem spell_any (ao : Option Addr) (c : Nat) (l : List UInt8) (row : ByteArray) (w : World) (hrd : Rd w ao l) (hlc : l.length ≤ c) (hlen : l.length ≤ 140737488355328) (hrow : row.size = 64) :
    Calls Tryz.prog 86 #[.slice ao l.length c, .string row] w fun e w' =>
      e = .returned (.slice (some ⟨w.heap.size, 0, none⟩) (enc row l).length ((l.length + 2) / 3 * 4)) ∧ w'.ownsRow w.heap.size 5 1 (.slice (some ⟨w.heap.size, 0, none⟩) (enc row l).length ((l.length + 2) / 3 * 4)) (enc row l).length ((enc row l).map B) ∧ Below w.heap.size w w' := by
  obtain ⟨i0, hi, hz0, hz1, hz2⟩ := info_parts infoB
  go_enter Tryz.func86, Tryz.ntmps86
  go_wp2_with (at_make; refine wpList_make_own _ rfl _ _ 81 rfl w.heap.size 5 i0 (.int .u8 0) 1 Tryz.underlying81 hi hz0 hz1 _ _ _ ((l.length + 2) / 3 * 4) rfl rfl (by omega) ?b2 ?b3 (Nat.le_refl _) ?_)
  case b2 => rw [hz2]; omega
  case b3 => unfold maxLen; omega
  intro w0 hown0 hgrow0
  go_wp2
  go_loopw [0, 5] (fun s t wr => ∃ (a' : Option Addr) (c' : Nat) (r xs : List UInt8), s = .slice a' r.length c' ∧ r.length ≤ c' ∧ r.length ≤ l.length ∧ Rd w a' r ∧ t = .slice (some ⟨w.heap.size, 0, none⟩) xs.length ((l.length + 2) / 3 * 4) ∧
      wr.ownsRow w.heap.size 5 1 (.slice (some ⟨w.heap.size, 0, none⟩) xs.length ((l.length + 2) / 3 * 4)) xs.length (xs.map B) ∧ Hid (enc row l = xs ++ enc row r) ∧ xs.length + (r.length + 2) / 3 * 4 ≤ (l.length + 2) / 3 * 4 ∧ Below w.heap.size w wr)
    (fun s _ _ => sliceN s)
  case atStart => exact ⟨ao, c, l, [], rfl, hlc, Nat.le_refl _, hrd, rfl, hown0, by simp [Hid], by simp, (Below.refl _ _).grown hgrow0 (Nat.le_refl _) (fun k h => by cases h)⟩
  case round =>
    obtain ⟨a', c', r, xs, rfl, hrc, hrl, hrd', rfl, hwr, He, hfit, hbl⟩ := hrel
    by_cases h3 : 3 ≤ r.length
    · obtain ⟨x, y, z, r', rfl⟩ := three h3
      rcases hrd' with hrd' | ⟨b, off, rfl, hb, hcr⟩
      · cases hrd'
      have h0 : wr.cell? ⟨b, off, none⟩ = some (.int .u8 x.toNat) := (hbl.cell (p := ⟨b, off, none⟩) hb).trans (hcr 0 (by simp))
      have h1 : wr.cell? ⟨b, off + 1, none⟩ = some (.int .u8 y.toNat) := (hbl.cell (p := ⟨b, off + 1, none⟩) hb).trans (hcr 1 (by simp))
      have h2 : wr.cell? ⟨b, off + 2, none⟩ = some (.int .u8 z.toNat) := (hbl.cell (p := ⟨b, off + 2, none⟩) hb).trans (hcr 2 (by simp))
      have Hc : Hid (∀ j, j < r'.length → w.cell? ⟨b, off + 3 + j, none⟩ = some (B (r'.getD j 0))) := fun j hj => by
        have := hcr (3 + j) (by simp; omega)
        rw [Nat.add_assoc, this]
        congr 2
        rw [Nat.add_comm 3 j]; rfl
      clear hcr
      simp only [List.length_cons] at hrc hrl hfit h3
      go_wp2_with fail
      refine (grp3 w.heap.size w.heap.size xs.length _ b off _ xs x y z row wr hwr (by omega) hrow (Nat.le_trans (Nat.le_refl _) hbl.size) (Nat.le_refl _) h0 h1 h2).mono ?_
      rintro e w1 ⟨rfl, hown1, hbl1⟩
      go_wp2
      go_roundw
      case rel =>
        have el : (xs ++ sg row (x.toNat * 65536 + y.toNat * 256 + z.toNat) 4).length = xs.length + 4 := by simp [sg_length]
        refine ⟨_, c' - 3, r', xs ++ sg row (x.toNat * 65536 + y.toNat * 256 + z.toNat) 4, rfl, by omega, by omega, ?_, by rw [el], by rw [el]; exact hown1, ?_, by rw [el]; omega, hbl.trans hbl1⟩
        · by_cases hn : r' = []
          · exact .inl hn
          · have hp : 0 < r'.length := List.length_pos_iff.2 hn
            exact .inr ⟨b, off + 3, by rw [if_neg (by omega)], hb, Hc.out⟩
        · show enc row l = _
          rw [List.append_assoc, ← enc_cons3]
          exact He.out
      case measure => simp [sliceN]; omega
    · have hlt : r.length = 0 ∨ r.length = 1 ∨ r.length = 2 := by omega
      rcases hlt with hlt | hlt | hlt
      · obtain rfl := List.eq_nil_of_length_eq_zero hlt
        simp only [List.length_nil] at hrc hrl hfit h3
        go_wp2_with fail
        refine (grp0 _ _ _ row wr).mono ?_
        rintro e w1 ⟨rfl, rfl⟩
        go_wp2
        go_ret
        have e1 : enc row l = xs := by have := He.out; simpa [enc] using this
        rw [e1]
        exact ⟨rfl, hwr, hbl⟩
      · obtain ⟨x, rfl⟩ := one hlt
        rcases hrd' with hrd' | ⟨b, off, rfl, hb, hcr⟩
        · cases hrd'
        have h0 : wr.cell? ⟨b, off, none⟩ = some (.int .u8 x.toNat) := (hbl.cell (p := ⟨b, off, none⟩) hb).trans (hcr 0 (by simp))
        clear hcr
        simp only [List.length_cons, List.length_nil] at hrc hrl hfit h3
        go_wp2_with fail
        refine (grp1 w.heap.size w.heap.size xs.length _ b off _ xs x row wr hwr (by omega) hrow (Nat.le_trans (Nat.le_refl _) hbl.size) (Nat.le_refl _) h0).mono ?_
        rintro e w1 ⟨rfl, hown1, hbl1⟩
        go_wp2
        go_ret
        have e1 : enc row l = xs ++ sg row (x.toNat * 65536) 2 := He.out
        have e2 : (xs ++ sg row (x.toNat * 65536) 2).length = xs.length + 2 := by simp [sg_length]
        rw [e1, e2]
        exact ⟨rfl, hown1, hbl.trans hbl1⟩
      · obtain ⟨x, y, rfl⟩ := two hlt
        rcases hrd' with hrd' | ⟨b, off, rfl, hb, hcr⟩
        · cases hrd'
        have h0 : wr.cell? ⟨b, off, none⟩ = some (.int .u8 x.toNat) := (hbl.cell (p := ⟨b, off, none⟩) hb).trans (hcr 0 (by simp))
        have h1 : wr.cell? ⟨b, off + 1, none⟩ = some (.int .u8 y.toNat) := (hbl.cell (p := ⟨b, off + 1, none⟩) hb).trans (hcr 1 (by simp))
        clear hcr
        simp only [List.length_cons, List.length_nil] at hrc hrl hfit h3
        go_wp2_with fail
        refine (grp2 w.heap.size w.heap.size xs.length _ b off _ xs x y row wr hwr (by omega) hrow (Nat.le_trans (Nat.le_refl _) hbl.size) (Nat.le_refl _) h0 h1).mono ?_
        rintro e w1 ⟨rfl, hown1, hbl1⟩
        go_wp2
        go_ret
        have e1 : enc row l = xs ++ sg row (x.toNat * 65536 + y.toNat * 256) 3 := He.out
        have e2 : (xs ++ sg row (x.toNat * 65536 + y.toNat * 256) 3).length = xs.length + 3 := by simp [sg_length]
        rw [e1, e2]
        exact ⟨rfl, hown1, hbl.trans hbl1⟩

end Go.Proofs.YtdhfjhdlimmjhaaGreatDoor.B64
namespace Go.Proofs.YtdhfjhdlimmjhaaGreatDoor.B64
open Go.RowKit
set_option maxRecDepth 100000

def urlRow : ByteArray := ⟨#[65, 66, 67, 68, 69, 70, 71, 72, 73, 74, 75, 76, 77, 78, 79, 80, 81, 82, 83, 84, 85, 86, 87, 88, 89, 90, 97, 98, 99, 100, 101, 102, 103, 104, 105, 106, 107, 108, 109, 110, 111, 112, 113, 114, 115, 116, 117, 118, 119, 120, 121, 122, 48, 49, 50, 51, 52, 53, 54, 55, 56, 57, 45, 95]⟩
def stdRow : ByteArray := ⟨#[65, 66, 67, 68, 69, 70, 71, 72, 73, 74, 75, 76, 77, 78, 79, 80, 81, 82, 83, 84, 85, 86, 87, 88, 89, 90, 97, 98, 99, 100, 101, 102, 103, 104, 105, 106, 107, 108, 109, 110, 111, 112, 113, 114, 115, 116, 117, 118, 119, 120, 121, 122, 48, 49, 50, 51, 52, 53, 54, 55, 56, 57, 43, 47]⟩

def fill (n : Nat) : List UInt8 := List.replicate ((3 - n % 3) % 3) 61

theorem conv_own (w : World) (g cap base : Nat) (l : List UInt8) (h : w.ownsRow base 5 1 (.slice (some ⟨g, 0, none⟩) l.length cap) l.length (l.map B)) :
    (convert 81 9 (.slice (some ⟨g, 0, none⟩) l.length cap)).run Tryz.prog w = .ok (.string ⟨l.toArray⟩) w := by
  refine run_convert_bytes_back w 81 9 5 ⟨g, 0, none⟩ cap l Tryz.underlying81 Tryz.underlying5 Tryz.underlying9 fun j hj => ?_
  have := h.cells (g := g) rfl j (B l[j]) (by simp [hj])
  exact this

set_option maxHeartbeats 400000 in
theorem encode_any (ao : Option Addr) (c : Nat) (l : List UInt8) (w : World) (hrd : Rd w ao l) (hlc : l.length ≤ c) (hlen : l.length ≤ 140737488355328) :
    Calls Tryz.prog 70 #[.slice ao l.length c] w fun e w' => e = .returned (.string ⟨(enc urlRow l).toArray⟩) ∧ Below w.heap.size w w' := by
  go_enter Tryz.func70, Tryz.ntmps70
  go_wp2_with fail
  refine (spell_any ao c l _ w hrd hlc hlen (by rfl)).mono ?_
  rintro e w1 ⟨rfl, hown1, hbl1⟩
  have hcv := conv_own w1 _ _ _ _ hown1
  clear hown1
  go_wp2
  go_ret
  exact ⟨rfl, hbl1⟩

end Go.Proofs.YtdhfjhdlimmjhaaGreatDoor.B64