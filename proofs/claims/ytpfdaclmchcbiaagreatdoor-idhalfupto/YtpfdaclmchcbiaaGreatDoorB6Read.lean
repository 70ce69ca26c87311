import Derived.Test.YtpfdaclmchcbiaaGreatDoorB6Unf
namespace Go.Proofs.YtpfdaclmchcbiaaGreatDoor.B64
open Go.RowKit
set_option maxRecDepth 100000

/-- A sign's number. -/
def nx (row : ByteArray) (c : UInt8) : Nat := (ix row c).toNat

/-- The 24 bits after j bytes were taken from the front. -/
def bt (N j : Nat) : Nat := N * 256 ^ j % 16777216

theorem bt_lt (N j : Nat) : bt N j < 16777216 := Nat.mod_lt _ (by decide)
theorem bt_succ (N j : Nat) : bt N j * 256 % 16777216 = bt N (j + 1) := by
  unfold bt
  rw [Nat.pow_succ, ← Nat.mul_assoc, Nat.mod_mul_mod]

/-- The first j bytes of 24 bits. -/
def bs (N j : Nat) : List UInt8 := (List.range j).map fun i => UInt8.ofNat (bt N i / 65536)
theorem bs_succ (N j : Nat) : bs N (j + 1) = bs N j ++ [UInt8.ofNat (bt N j / 65536)] := by simp [bs, List.range_succ]
theorem bs_length (N j : Nat) : (bs N j).length = j := by simp [bs]

theorem byte_of (T : Nat) (h : T < 16777216) : (UInt8.ofNat (T / 65536)).toNat = T / 65536 := by
  rw [UInt8.toNat_ofNat']; omega

/-- The 24 bits of a group of signs. -/
def grpN (row : ByteArray) (l : List UInt8) : Nat := match l with
  | [a, b] => nx row a * 262144 + nx row b * 4096
  | [a, b, c] => nx row a * 262144 + nx row b * 4096 + nx row c * 64
  | [a, b, c, d] => nx row a * 262144 + nx row b * 4096 + nx row c * 64 + nx row d
  | _ => 0

/-- The bytes of signs; none: bits are left. -/
def dec (row : ByteArray) : List UInt8 → Option (List UInt8)
  | a :: b :: c :: d :: r => (dec row r).map (bs (grpN row [a, b, c, d]) 3 ++ ·)
  | [a, b, c] => if bt (grpN row [a, b, c]) 2 = 0 then some (bs (grpN row [a, b, c]) 2) else none
  | [a, b] => if bt (grpN row [a, b]) 1 = 0 then some (bs (grpN row [a, b]) 1) else none
  | _ => some []

theorem and24 (T : Nat) (h : T < 16777216) : bits .and .u32 ((T : Int) * 256) 16777215 = ((T * 256 % 16777216 : Nat) : Int) := by
  have e : ((T : Int) * 256) = ((T * 256 : Nat) : Int) := by omega
  have e2 : (16777215 : Int) = ((16777215 : Nat) : Int) := rfl
  rw [e, e2, u32_and_nat _ _ (by omega) (by omega)]
  congr 1
  exact Nat.and_two_pow_sub_one_eq_mod (T * 256) 24

theorem ex4 (l : List UInt8) (k : Nat) (a b c d : UInt8) (r : List UInt8) (h : l.drop k = a :: b :: c :: d :: r) : (⟨l.toArray⟩ : ByteArray).extract k (k + 4) = ⟨#[a, b, c, d]⟩ := by
  rw [Lib.extract_eq]
  show ByteArray.mk ((l.drop k).take (k + 4 - k)).toArray = _
  rw [h, Nat.add_sub_cancel_left]
  rfl
theorem exEnd (l : List UInt8) (k : Nat) (r : List UInt8) (h : l.drop k = r) : (⟨l.toArray⟩ : ByteArray).extract k l.length = ⟨r.toArray⟩ := by
  rw [Lib.extract_eq]
  show ByteArray.mk ((l.drop k).take (l.length - k)).toArray = _
  rw [List.take_of_length_le (by simp), h]

theorem four {l : List UInt8} (h : 4 ≤ l.length) : ∃ a b c d r, l = a :: b :: c :: d :: r := by
  match l, h with
  | a :: b :: c :: d :: r, _ => exact ⟨a, b, c, d, r, rfl⟩
theorem three' {l : List UInt8} (h : l.length = 3) : ∃ a b c, l = [a, b, c] := by
  match l, h with
  | [a, b, c], _ => exact ⟨a, b, c, rfl⟩

theorem nx_of (row : ByteArray) (c : UInt8) (hrow : row.size = 64) (h : 0 ≤ ix row c) : NumSaid row c (nx row c) ∧ nx row c < 64 := by
  have := ix_bd row c hrow
  have e : ix row c = (nx row c : Int) := by unfold nx; omega
  exact ⟨numSaid row c _ e (by omega), by omega⟩

set_option maxHeartbeats 1000000 in
theorem read_any (row : ByteArray) (l : List UInt8) (w : World) (hlen : l.length ≤ 281474976710656) (hrow : row.size = 64) (hall : ∀ c ∈ l, 0 ≤ ix row c) (hmod : l.length % 4 ≠ 1) :
    Calls Tryz.prog 34 #[.string ⟨l.toArray⟩, .string row] w fun e w' =>
      ((∃ bs, dec row l = some bs ∧ e = .returned (.tuple #[.slice (some ⟨w.heap.size, 0, none⟩) bs.length (l.length / 4 * 3 + 2), .int .i64 0, .int .i64 0]) ∧ w'.ownsRow w.heap.size 5 1 (.slice (some ⟨w.heap.size, 0, none⟩) bs.length (l.length / 4 * 3 + 2)) bs.length (bs.map B)) ∨
        (dec row l = none ∧ e = .returned (.tuple #[.slice none 0 0, .int .i64 22, .int .i64 ((l.length : Int) - 1)]))) ∧ Below w.heap.size w w' := by
  obtain ⟨i0, hi, hz0, hz1, hz2⟩ := info_parts infoB
  have Hall : Hid (∀ c ∈ l, NumSaid row c (nx row c) ∧ nx row c < 64) := fun c hc => nx_of row c hrow (hall c hc)
  clear hall
  go_enter Tryz.func34, Tryz.ntmps34
  go_wp2_with (at_make; refine wpList_make_own _ rfl _ _ 46 rfl w.heap.size 5 i0 (.int .u8 0) 1 Tryz.underlying46 hi hz0 hz1 _ _ _ (l.length / 4 * 3 + 2) rfl rfl (by omega) ?b2 ?b3 (Nat.le_refl _) ?_)
  case b2 => rw [hz2]; omega
  case b3 => unfold maxLen; omega
  intro w0 hown0 hgrow0
  go_wp2
  go_loopw [7, 8] (fun t s wr => ∃ (k : Nat) (xs : List UInt8), s = .int .i64 k ∧ k ≤ l.length + 3 ∧ k % 4 = 0 ∧ t = .slice (some ⟨w.heap.size, 0, none⟩) xs.length (l.length / 4 * 3 + 2) ∧
      wr.ownsRow w.heap.size 5 1 (.slice (some ⟨w.heap.size, 0, none⟩) xs.length (l.length / 4 * 3 + 2)) xs.length (xs.map B) ∧ Hid (dec row l = (dec row (l.drop k)).map (xs ++ ·)) ∧ xs.length + (l.drop k).length / 4 * 3 ≤ l.length / 4 * 3 + (if l.length ≤ k then 2 else 0) ∧ Below w.heap.size w wr)
    (fun _ s _ => l.length + 4 - (intOf s).toNat)
  case atStart =>
    refine ⟨0, [], rfl, Nat.zero_le _, rfl, rfl, hown0, ?_, ?_, (Below.refl _ _).grown hgrow0 (Nat.le_refl _) (fun k h => by cases h)⟩
    · show dec row l = _
      simp
    · simp
  case round =>
    obtain ⟨k, xs, rfl, hk, hk4, rfl, hwr, He, hfit, hbl⟩ := hrel
    by_cases h4 : k + 4 ≤ l.length
    · obtain ⟨a, b, c, d, r, hd⟩ := four (l := l.drop k) (by simp; omega)
      have hx := ex4 l k a b c d r hd
      obtain ⟨C0, l0⟩ := Hall.out a (List.mem_of_mem_drop (i := k) (by rw [hd]; simp))
      obtain ⟨C1, l1⟩ := Hall.out b (List.mem_of_mem_drop (i := k) (by rw [hd]; simp))
      obtain ⟨C2, l2⟩ := Hall.out c (List.mem_of_mem_drop (i := k) (by rw [hd]; simp))
      obtain ⟨C3, l3⟩ := Hall.out d (List.mem_of_mem_drop (i := k) (by rw [hd]; simp))
      clear Hall
      have hkl : ¬ l.length ≤ k := by omega
      rw [if_neg hkl] at hfit
      have Hd : Hid (l.drop k = a :: b :: c :: d :: r) := hd
      have Hd4 : Hid (l.drop (k + 4) = r) := by show l.drop (k + 4) = r; rw [← List.drop_drop, hd]; rfl
      have hrl : 3 ≤ (l.drop k).length / 4 * 3 := by rw [hd]; simp; omega
      have Hfit : Hid (xs.length + (l.drop k).length / 4 * 3 ≤ l.length / 4 * 3 + 0) := hfit
      have hfit3 : xs.length + 3 ≤ l.length / 4 * 3 := by omega
      clear hd hfit hrl
      go_wp2_with fail
      refine (bits4 row a b c d _ _ _ _ C0 C1 C2 C3 l0 l1 l2 l3 wr).mono ?_
      rintro e wq ⟨rfl, q, hq⟩
      have hwq : wq.ownsRow w.heap.size 5 1 (.slice (some ⟨w.heap.size, 0, none⟩) xs.length (l.length / 4 * 3 + 2)) xs.length (xs.map B) := by rw [hq]; exact hwr
      have hbq : Below w.heap.size w wq := by rw [hq]; exact below_drewN hbl q
      clear hq hwr hbl
      have HB0 : Hid (Value.int .u32 ((grpN row [a, b, c, d] : Nat) : Int) = .int .u32 (bt (grpN row [a, b, c, d]) 0 : Int)) := by
        have : grpN row [a, b, c, d] < 16777216 := by simp only [grpN]; omega
        show Value.int _ _ = Value.int _ _
        simp only [bt, Nat.pow_zero, Nat.mul_one, Nat.mod_eq_of_lt this]
      rw [show nx row a * 262144 + nx row b * 4096 + nx row c * 64 + nx row d = grpN row [a, b, c, d] from rfl]
      generalize hN : grpN row [a, b, c, d] = N at HB0 ⊢
      have HN : Hid (grpN row [a, b, c, d] = N) := hN
      clear hN
      go_wp2
      clear hx
      go_loopw [7, 10, 37] (fun t u s wi => ∃ j : Nat, j ≤ 3 ∧ s = .int .i64 j ∧ u = .int .u32 (bt N j : Int) ∧ t = .slice (some ⟨w.heap.size, 0, none⟩) (xs.length + j) (l.length / 4 * 3 + 2) ∧
          wi.ownsRow w.heap.size 5 1 (.slice (some ⟨w.heap.size, 0, none⟩) (xs.length + j) (l.length / 4 * 3 + 2)) (xs.length + j) ((xs ++ bs N j).map B) ∧ Below w.heap.size w wi) (fun _ _ s _ => 3 - (intOf s).toNat)
      case atStart => exact ⟨0, by omega, rfl, HB0.out, rfl, by simpa [bs] using hwq, hbq⟩
      case round =>
        obtain ⟨j, hj, rfl, rfl, rfl, hwi, hbi⟩ := hrel
        by_cases hjn : j < 3
        · have hT := bt_lt N j
          have HT : Hid (bt N j * 256 % 16777216 = bt N (j + 1)) := bt_succ N j
          have HS : Hid (bs N (j + 1) = bs N j ++ [UInt8.ofNat (bt N j / 65536)]) := bs_succ N j
          generalize bt N j = T at hT HT HS
          have hand := and24 T hT
          have HY : Hid ((UInt8.ofNat (T / 65536)).toNat = T / 65536) := byte_of T hT
          go_wp2_with (at_builtin; refine wpList_append_fits _ rfl (.tmp 39) (.tmp 43) 46 rfl w.heap.size 5 i0 1 Tryz.underlying46 hi hz1 w.heap.size (xs.length + j) _ _ rfl (hwi.alloc _) ⟨wr.heap.size, 0, none⟩ 1 1 [.int .u8 ((T : Int) / 65536)] rfl rfl (by intro t u ht; match t, ht with | 0, ht => simp at ht; subst ht; simp [Addr.add]) (by intro u hu; simp at hu; subst hu; rfl) (by omega) ?_; intro w1 hown1 hgrow1)
          go_roundw
          case rel =>
            refine ⟨j + 1, by omega, by go_num, congrArg (Value.int .u32) (by rw [← HT.out]; omega), rfl, ?_, (hbi.alloc hbi.size _).grown hgrow1 (by have := hbi.size; simp; omega) (fun k hk => by cases hk; exact Nat.le_refl _)⟩
            have eY : B (UInt8.ofNat (T / 65536)) = .int .u8 ((T : Int) / 65536) := by unfold B; rw [HY.out]; rfl
            rw [HS.out, ← List.append_assoc, List.map_append, List.map_singleton, eY]
            exact hown1
          case measure => simp [intOf]; omega
        · obtain rfl : j = 3 := by omega
          have hz : bt N 3 = 0 := by simp [bt]
          rw [hz]
          go_wp2
          have el : (xs ++ bs N 3).length = xs.length + 3 := by simp [bs_length]
          refine ⟨⟨k + 4, xs ++ bs N 3, by go_num, by omega, by omega, by rw [el], by rw [el]; exact hwi, ?_, ?_, hbi⟩, by simp [intOf]; omega⟩
          · show dec row l = _
            have h1 := He.out
            rw [Hd.out, dec, HN.out] at h1
            rw [Hd4.out, h1]
            simp [Function.comp_def]
          · have h1 := Hfit.out
            rw [el]
            simp only [List.length_drop] at h1 ⊢
            omega
    · by_cases hk2 : k < l.length
      · have hrem : l.length = k + 2 ∨ l.length = k + 3 := by omega
        rcases hrem with hrem | hrem
        · obtain ⟨a, b, hd⟩ := two (l := l.drop k) (by simp; omega)
          obtain ⟨C0, l0⟩ := Hall.out a (List.mem_of_mem_drop (i := k) (by rw [hd]; simp))
          obtain ⟨C1, l1⟩ := Hall.out b (List.mem_of_mem_drop (i := k) (by rw [hd]; simp))
          clear Hall
          have hl : l.length = k + 2 := by omega
          have hkl : ¬ l.length ≤ k := by omega
          rw [if_neg hkl] at hfit
          have Hl : Hid (l.length = k + 2) := hl
          have hx := exEnd l k [a, b] hd
          have Hd : Hid (l.drop k = [a, b]) := hd
          have hle : l.length ≤ k + 2 := by omega
          have hge : k + 2 ≤ l.length := by omega
          clear hd hl hrem
          go_wp2_with fail
          refine (bits2 row a b _ _ C0 C1 l0 l1 wr).mono ?_
          rintro e wq ⟨rfl, q, hq⟩
          have hwq : wq.ownsRow w.heap.size 5 1 (.slice (some ⟨w.heap.size, 0, none⟩) xs.length (l.length / 4 * 3 + 2)) xs.length (xs.map B) := by rw [hq]; exact hwr
          have hbq : Below w.heap.size w wq := by rw [hq]; exact below_drewN hbl q
          clear hq hwr hbl
          have HB0 : Hid (Value.int .u32 ((grpN row [a, b] : Nat) : Int) = .int .u32 (bt (grpN row [a, b]) 0 : Int)) := by
            have : grpN row [a, b] < 16777216 := by simp only [grpN]; omega
            show Value.int _ _ = Value.int _ _
            simp only [bt, Nat.pow_zero, Nat.mul_one, Nat.mod_eq_of_lt this]
          rw [show nx row a * 262144 + nx row b * 4096 = grpN row [a, b] from rfl]
          generalize hN : grpN row [a, b] = N at HB0 ⊢
          have HN : Hid (grpN row [a, b] = N) := hN
          clear hN
          go_wp2
          clear hx
          go_loopw [7, 10, 37] (fun t u s wi => ∃ j : Nat, j ≤ 1 ∧ s = .int .i64 j ∧ u = .int .u32 (bt N j : Int) ∧ t = .slice (some ⟨w.heap.size, 0, none⟩) (xs.length + j) (l.length / 4 * 3 + 2) ∧
              wi.ownsRow w.heap.size 5 1 (.slice (some ⟨w.heap.size, 0, none⟩) (xs.length + j) (l.length / 4 * 3 + 2)) (xs.length + j) ((xs ++ bs N j).map B) ∧ Below w.heap.size w wi) (fun _ _ s _ => 1 - (intOf s).toNat)
          case atStart => exact ⟨0, by omega, rfl, HB0.out, rfl, by simpa [bs] using hwq, hbq⟩
          case round =>
            obtain ⟨j, hj, rfl, rfl, rfl, hwi, hbi⟩ := hrel
            by_cases hjn : j < 1
            · have hT := bt_lt N j
              have HT : Hid (bt N j * 256 % 16777216 = bt N (j + 1)) := bt_succ N j
              have HS : Hid (bs N (j + 1) = bs N j ++ [UInt8.ofNat (bt N j / 65536)]) := bs_succ N j
              generalize bt N j = T at hT HT HS
              have hand := and24 T hT
              have HY : Hid ((UInt8.ofNat (T / 65536)).toNat = T / 65536) := byte_of T hT
              go_wp2_with (at_builtin; refine wpList_append_fits _ rfl (.tmp 39) (.tmp 43) 46 rfl w.heap.size 5 i0 1 Tryz.underlying46 hi hz1 w.heap.size (xs.length + j) _ _ rfl (hwi.alloc _) ⟨wr.heap.size, 0, none⟩ 1 1 [.int .u8 ((T : Int) / 65536)] rfl rfl (by intro t u ht; match t, ht with | 0, ht => simp at ht; subst ht; simp [Addr.add]) (by intro u hu; simp at hu; subst hu; rfl) (by omega) ?_; intro w1 hown1 hgrow1)
              go_roundw
              case rel =>
                refine ⟨j + 1, by omega, by go_num, congrArg (Value.int .u32) (by rw [← HT.out]; omega), rfl, ?_, (hbi.alloc hbi.size _).grown hgrow1 (by have := hbi.size; simp; omega) (fun k hk => by cases hk; exact Nat.le_refl _)⟩
                have eY : B (UInt8.ofNat (T / 65536)) = .int .u8 ((T : Int) / 65536) := by unfold B; rw [HY.out]; rfl
                rw [HS.out, ← List.append_assoc, List.map_append, List.map_singleton, eY]
                exact hown1
              case measure => simp [intOf]; omega
            · obtain rfl : j = 1 := by omega
              have hfit2 : True := trivial
              by_cases hz : bt N 1 = 0
              · have Hz : Hid (bt N 1 = 0) := hz
                rw [hz]
                clear hz
                go_wp2
                have el : (xs ++ bs N 1).length = xs.length + 1 := by simp [bs_length]
                refine ⟨⟨k + 4, xs ++ bs N 1, by go_num, by omega, by omega, by rw [el], by rw [el]; exact hwi, ?_, ?_, hbi⟩, by simp [intOf]; omega⟩
                · show dec row l = _
                  have h1 := He.out
                  rw [Hd.out, dec, HN.out, if_pos Hz.out] at h1
                  rw [h1, List.drop_eq_nil_of_le (by omega)]
                  simp [dec]
                · rw [el, if_pos (by omega)]
                  simp only [List.length_drop]
                  omega
              · have Hz : Hid (¬ bt N 1 = 0) := hz
                generalize bt N 1 = T at hz ⊢
                have hT : ((T : Int) != 0) = true := by simp; omega
                clear hz
                go_wp2
                go_ret3
                refine ⟨.inr ⟨?_, rfl⟩, hbi⟩
                have h1 := He.out
                rw [Hd.out, dec, HN.out, if_neg Hz.out] at h1
                exact h1
        · obtain ⟨a, b, c, hd⟩ := three' (l := l.drop k) (by simp; omega)
          obtain ⟨C0, l0⟩ := Hall.out a (List.mem_of_mem_drop (i := k) (by rw [hd]; simp))
          obtain ⟨C1, l1⟩ := Hall.out b (List.mem_of_mem_drop (i := k) (by rw [hd]; simp))
          obtain ⟨C2, l2⟩ := Hall.out c (List.mem_of_mem_drop (i := k) (by rw [hd]; simp))
          clear Hall
          have hl : l.length = k + 3 := by omega
          have hkl : ¬ l.length ≤ k := by omega
          rw [if_neg hkl] at hfit
          have Hl : Hid (l.length = k + 3) := hl
          have hx := exEnd l k [a, b, c] hd
          have Hd : Hid (l.drop k = [a, b, c]) := hd
          have hle : l.length ≤ k + 3 := by omega
          have hge : k + 3 ≤ l.length := by omega
          clear hd hl hrem
          go_wp2_with fail
          refine (bits3 row a b c _ _ _ C0 C1 C2 l0 l1 l2 wr).mono ?_
          rintro e wq ⟨rfl, q, hq⟩
          have hwq : wq.ownsRow w.heap.size 5 1 (.slice (some ⟨w.heap.size, 0, none⟩) xs.length (l.length / 4 * 3 + 2)) xs.length (xs.map B) := by rw [hq]; exact hwr
          have hbq : Below w.heap.size w wq := by rw [hq]; exact below_drewN hbl q
          clear hq hwr hbl
          have HB0 : Hid (Value.int .u32 ((grpN row [a, b, c] : Nat) : Int) = .int .u32 (bt (grpN row [a, b, c]) 0 : Int)) := by
            have : grpN row [a, b, c] < 16777216 := by simp only [grpN]; omega
            show Value.int _ _ = Value.int _ _
            simp only [bt, Nat.pow_zero, Nat.mul_one, Nat.mod_eq_of_lt this]
          rw [show nx row a * 262144 + nx row b * 4096 + nx row c * 64 = grpN row [a, b, c] from rfl]
          generalize hN : grpN row [a, b, c] = N at HB0 ⊢
          have HN : Hid (grpN row [a, b, c] = N) := hN
          clear hN
          go_wp2
          clear hx
          go_loopw [7, 10, 37] (fun t u s wi => ∃ j : Nat, j ≤ 2 ∧ s = .int .i64 j ∧ u = .int .u32 (bt N j : Int) ∧ t = .slice (some ⟨w.heap.size, 0, none⟩) (xs.length + j) (l.length / 4 * 3 + 2) ∧
              wi.ownsRow w.heap.size 5 1 (.slice (some ⟨w.heap.size, 0, none⟩) (xs.length + j) (l.length / 4 * 3 + 2)) (xs.length + j) ((xs ++ bs N j).map B) ∧ Below w.heap.size w wi) (fun _ _ s _ => 2 - (intOf s).toNat)
          case atStart => exact ⟨0, by omega, rfl, HB0.out, rfl, by simpa [bs] using hwq, hbq⟩
          case round =>
            obtain ⟨j, hj, rfl, rfl, rfl, hwi, hbi⟩ := hrel
            by_cases hjn : j < 2
            · have hT := bt_lt N j
              have HT : Hid (bt N j * 256 % 16777216 = bt N (j + 1)) := bt_succ N j
              have HS : Hid (bs N (j + 1) = bs N j ++ [UInt8.ofNat (bt N j / 65536)]) := bs_succ N j
              generalize bt N j = T at hT HT HS
              have hand := and24 T hT
              have HY : Hid ((UInt8.ofNat (T / 65536)).toNat = T / 65536) := byte_of T hT
              go_wp2_with (at_builtin; refine wpList_append_fits _ rfl (.tmp 39) (.tmp 43) 46 rfl w.heap.size 5 i0 1 Tryz.underlying46 hi hz1 w.heap.size (xs.length + j) _ _ rfl (hwi.alloc _) ⟨wr.heap.size, 0, none⟩ 1 1 [.int .u8 ((T : Int) / 65536)] rfl rfl (by intro t u ht; match t, ht with | 0, ht => simp at ht; subst ht; simp [Addr.add]) (by intro u hu; simp at hu; subst hu; rfl) (by omega) ?_; intro w1 hown1 hgrow1)
              go_roundw
              case rel =>
                refine ⟨j + 1, by omega, by go_num, congrArg (Value.int .u32) (by rw [← HT.out]; omega), rfl, ?_, (hbi.alloc hbi.size _).grown hgrow1 (by have := hbi.size; simp; omega) (fun k hk => by cases hk; exact Nat.le_refl _)⟩
                have eY : B (UInt8.ofNat (T / 65536)) = .int .u8 ((T : Int) / 65536) := by unfold B; rw [HY.out]; rfl
                rw [HS.out, ← List.append_assoc, List.map_append, List.map_singleton, eY]
                exact hown1
              case measure => simp [intOf]; omega
            · obtain rfl : j = 2 := by omega
              have hfit2 : True := trivial
              by_cases hz : bt N 2 = 0
              · have Hz : Hid (bt N 2 = 0) := hz
                rw [hz]
                clear hz
                go_wp2
                have el : (xs ++ bs N 2).length = xs.length + 2 := by simp [bs_length]
                refine ⟨⟨k + 4, xs ++ bs N 2, by go_num, by omega, by omega, by rw [el], by rw [el]; exact hwi, ?_, ?_, hbi⟩, by simp [intOf]; omega⟩
                · show dec row l = _
                  have h1 := He.out
                  rw [Hd.out, dec, HN.out, if_pos Hz.out] at h1
                  rw [h1, List.drop_eq_nil_of_le (by omega)]
                  simp [dec]
                · rw [el, if_pos (by omega)]
                  simp only [List.length_drop]
                  omega
              · have Hz : Hid (¬ bt N 2 = 0) := hz
                generalize bt N 2 = T at hz ⊢
                have hT : ((T : Int) != 0) = true := by simp; omega
                clear hz
                go_wp2
                go_ret3
                refine ⟨.inr ⟨?_, rfl⟩, hbi⟩
                have h1 := He.out
                rw [Hd.out, dec, HN.out, if_neg Hz.out] at h1
                exact h1
      · have hd : l.drop k = [] := List.drop_eq_nil_of_le (by omega)
        have He' : Hid (dec row l = some xs) := by
          have h1 := He.out
          rw [hd] at h1
          show dec row l = some xs
          simpa [dec] using h1
        clear hd He Hall
        go_wp2
        go_ret3
        exact ⟨.inl ⟨xs, He'.out, rfl, hwr⟩, hbl⟩

end Go.Proofs.YtpfdaclmchcbiaaGreatDoor.B64