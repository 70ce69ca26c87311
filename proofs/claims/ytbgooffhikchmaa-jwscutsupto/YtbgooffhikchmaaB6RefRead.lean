import Derived.Test.YtbgooffhikchmaaB6Ref1
import Derived.Test.YtbgooffhikchmaaB6RefM
namespace Go.Proofs.Ytbgooffhikchmaa.B64
open Go.RowKit

/-- A bit put into a byte. -/
theorem orBit : ∀ n, n < 256 → ∀ k, k < 8 → ∀ v, v < 2 → n / 2 ^ k % 2 = 0 → (n ||| v * 2 ^ k) < 256 ∧ ∀ i, i < 8 → (n ||| v * 2 ^ k) / 2 ^ i % 2 = if i = k then v else n / 2 ^ i % 2 := by decide +kernel

theorem andBit (n k : Nat) (hn : n < 64) : bits .and .i64 ((n : Int) / 2 ^ k) 1 = ((n / 2 ^ k % 2 : Nat) : Int) := by
  have hk : ∀ m : Int, 0 ≤ m → m < 2 ^ 16 → IntKind.i64.wrap m = m := fun m h0 h1 => by rw [IntKind.wrap_i64]; omega
  have e : ((n : Int) / 2 ^ k) = ((n / 2 ^ k : Nat) : Int) := by simp
  have hle : n / 2 ^ k ≤ n := Nat.div_le_self _ _
  rw [e]
  generalize n / 2 ^ k = m at hle
  have := bits_mask .i64 16 (by decide) hk 1 (by decide) (m : Int) (by omega) (by omega)
  simpa using this

theorem orByte (x v k : Nat) (hx : x < 256) (hv : v < 2) (hk : k ≤ 7) : bits .or .u8 (x : Int) (wrap64 ((v : Int) * 2 ^ k) % 256) = ((x ||| v * 2 ^ k : Nat) : Int) := by
  have e : wrap64 ((v : Int) * 2 ^ k) % 256 = ((v * 2 ^ k : Nat) : Int) ∧ v * 2 ^ k < 256 := by
    have h1 : v = 0 ∨ v = 1 := by omega
    have h2 : k = 0 ∨ k = 1 ∨ k = 2 ∨ k = 3 ∨ k = 4 ∨ k = 5 ∨ k = 6 ∨ k = 7 := by omega
    rcases h1 with rfl | rfl <;> rcases h2 with rfl | rfl | rfl | rfl | rfl | rfl | rfl | rfl <;> decide +kernel
  rw [e.1, u8_or_nat x _ hx e.2]

/-- The step of the loop that writes: the bit i is put in. -/
theorem setBit (row : ByteArray) (l o : List UInt8) (i L k v : Nat) (x : UInt8) (h8 : i / 8 < L) (hol : o.length = L) (hk : k = 7 - i % 8) (hx : o[i / 8]'(by omega) = x) (hv2 : v < 2) (hb : bitS row l i = v)
    (ht : ∀ t, t < 8 * L → bitB o t = if t < i then bitS row l t else 0) :
    (x.toNat ||| v * 2 ^ k) < 256 ∧ ∀ t, t < 8 * L → bitB (o.set (i / 8) (UInt8.ofNat (x.toNat ||| v * 2 ^ k))) t = if t < i + 1 then bitS row l t else 0 := by
  have hxl := x.toNat_lt
  have hx0 : x.toNat / 2 ^ k % 2 = 0 := by
    have := ht i (by omega)
    rw [if_neg (by omega)] at this
    unfold bitB at this
    rw [List.getD_eq_getElem?_getD, List.getElem?_eq_getElem (by omega), Option.getD_some, hx, ← hk] at this
    exact this
  obtain ⟨hlt, hbits⟩ := orBit x.toNat hxl k (by omega) v hv2 hx0
  refine ⟨hlt, fun t htl => ?_⟩
  by_cases hj : t / 8 = i / 8
  · have e : bitB (o.set (i / 8) (UInt8.ofNat (x.toNat ||| v * 2 ^ k))) t = (x.toNat ||| v * 2 ^ k) / 2 ^ (7 - t % 8) % 2 := by
      unfold bitB
      rw [hj, List.getD_eq_getElem?_getD, List.getElem?_set_self (by omega), Option.getD_some, UInt8.toNat_ofNat', Nat.mod_eq_of_lt hlt]
    rw [e, hbits _ (by omega)]
    by_cases hti : t = i
    · subst hti
      rw [if_pos (by omega), if_pos (by omega), hb]
    · rw [if_neg (by omega)]
      have h1 := ht t htl
      have e2 : bitB o t = x.toNat / 2 ^ (7 - t % 8) % 2 := by
        unfold bitB
        rw [hj, List.getD_eq_getElem?_getD, List.getElem?_eq_getElem (by omega), Option.getD_some, hx]
      rw [← e2, h1]
      by_cases hlt2 : t < i
      · rw [if_pos hlt2, if_pos (by omega)]
      · rw [if_neg hlt2, if_neg (by omega)]
  · have e : bitB (o.set (i / 8) (UInt8.ofNat (x.toNat ||| v * 2 ^ k))) t = bitB o t := by
      unfold bitB
      rw [List.getD_eq_getElem?_getD, List.getElem?_set_ne (fun h => hj h.symm), ← List.getD_eq_getElem?_getD]
    rw [e, ht t htl]
    have hne : t ≠ i := fun h => hj (by rw [h])
    by_cases hlt2 : t < i
    · rw [if_pos hlt2, if_pos (by omega)]
    · rw [if_neg hlt2, if_neg (by omega)]

set_option maxHeartbeats 4000000 in
theorem refread_any (std : Bool) (l : List UInt8) (w : World) (hlen : l.length ≤ 281474976710656) (hall : ∀ c ∈ l, 0 ≤ ix (rowOf std) c) (hmod : l.length % 4 ≠ 1) :
    Calls Try.prog 29 #[.string ⟨l.toArray⟩, .bool std] w fun e w' =>
      ((∃ bs, dec (rowOf std) l = some bs ∧ e = .returned (.tuple #[.slice (some ⟨w.heap.size, 0, none⟩) bs.length bs.length, .bool true]) ∧ w'.ownsRow w.heap.size 5 1 (.slice (some ⟨w.heap.size, 0, none⟩) bs.length bs.length) bs.length (bs.map B)) ∨
        (dec (rowOf std) l = none ∧ e = .returned (.tuple #[.slice none 0 0, .bool false]))) ∧ Below w.heap.size w w' := by
  obtain ⟨i0, hi, hz0, hz1, hz2⟩ := info_parts infoB
  have HB : Hid (BitsOf (rowOf std) l (dec (rowOf std) l)) := dec_bits (rowOf std) (rowOf_size std) l.length l (Nat.le_refl _) hmod
  have Hall : Hid (∀ c ∈ l, 0 ≤ ix (rowOf std) c) := hall
  obtain ⟨L, hL⟩ : ∃ L, L = l.length * 6 / 8 := ⟨_, rfl⟩
  have hLI : (l.length : Int) * 6 / 8 = (L : Int) := by omega
  have hLb : L ≤ l.length := by omega
  have HL : Hid (L = l.length * 6 / 8) := hL
  clear hL hall hmod
  go_enter Try.func29, Try.ntmps29
  go_wp2_with (at_make; refine wpList_make_full _ rfl _ _ 22 rfl w.heap.size 5 i0 (.int .u8 0) 1 Try.underlying22 hi hz0 hz1 _ _ _ _ L rfl rfl (by omega) (by omega) ?b2 ?b3 (Nat.le_refl _) ?_)
  case b2 => rw [hz2]; omega
  case b3 => unfold maxLen; omega
  intro w0 hown0 hgrow0
  go_wp2
  have hmc : (madeCells #[Value.int .u8 0] L).toList = (List.replicate L (0 : UInt8)).map B := by
    rw [toList_madeCells_one, List.map_replicate]
    rfl
  rw [hmc] at hown0
  have hrow := rowOf_size std
  generalize hrw : rowOf std = row at *
  have Hrw : Hid (rowOf std = row) := hrw
  clear hmc hrw
  go_loopw [7] (fun s wr => ∃ (i : Nat) (o : List UInt8), s = .int .i64 i ∧ i ≤ 6 * l.length ∧ wr.ownsRow w.heap.size 5 1 (.slice (some ⟨w.heap.size, 0, none⟩) L L) L (o.map B) ∧
      Hid (o.length = L) ∧ Hid (∀ t, t < 8 * L → bitB o t = if t < i then bitS row l t else 0) ∧ Hid (∀ t, 8 * L ≤ t → t < i → bitS row l t = 0) ∧ Below w.heap.size w wr)
    (fun s _ => 6 * l.length - (intOf s).toNat)
  case atStart =>
    refine ⟨0, List.replicate L 0, rfl, Nat.zero_le _, hown0, by show _ = L; simp, fun t ht => ?_, fun t _ h => by omega, (Below.refl _ _).grown hgrow0 (Nat.le_refl _) (fun k h => by cases h)⟩
    rw [if_neg (by omega)]
    unfold bitB
    rw [List.getD_eq_getElem?_getD, List.getElem?_replicate, if_pos (by omega)]
    simp
  case round =>
    obtain ⟨i, o, rfl, hi6, hown, Hol, Ht, Hz, hbl⟩ := hrel
    by_cases hlt : i < 6 * l.length
    · have hj : i / 6 < l.length := by omega
      obtain ⟨c, hc⟩ : ∃ c, l[i / 6] = c := ⟨_, rfl⟩
      have gx : (⟨l.toArray⟩ : ByteArray)[i / 6]'(by show i / 6 < l.toArray.size; simpa using hj) = c := hc
      have hcv : 0 ≤ ix row c := by rw [← hc]; exact Hall.out _ (List.getElem_mem hj)
      have hn64 := nx_lt row c hrow
      have hnx : ix row c = (nx row c : Int) := by unfold nx; omega
      have Hb : Hid (bitS row l i = nx row c / 2 ^ (5 - i % 6) % 2) := by
        show _ = _
        unfold bitS
        rw [List.getD_eq_getElem?_getD, List.getElem?_eq_getElem hj, Option.getD_some, hc]
      obtain ⟨k1, hk1⟩ : ∃ k1, k1 = 5 - i % 6 := ⟨_, rfl⟩
      have hs1 : (5 - (i : Int) % 6) = (k1 : Int) := by omega
      have hk1' : k1 ≤ 5 := by omega
      rw [← hk1] at Hb
      clear hk1 hc hcv
      go_wp2_with fail
      have Cn : Hid (Calls Try.prog 28 #[.int .u8 c.toNat, .bool std] wr _) := refnum_any std c wr
      rw [Hrw.out, hnx] at Cn
      refine Cn.out.mono ?_
      rintro e w' ⟨rfl, rfl⟩
      generalize nx row c = n at *
      obtain ⟨v, hve⟩ : ∃ v, v = n / 2 ^ k1 % 2 := ⟨_, rfl⟩
      have hv := andBit n k1 hn64
      rw [← hve] at hv Hb
      have hv2 : v < 2 := by omega
      clear Cn hnx gx hve
      by_cases h8 : i / 8 < L
      · have hol := Hol.out
        obtain ⟨x, hx⟩ : ∃ x, o[i / 8]'(by omega) = x := ⟨_, rfl⟩
        have hcell : w'.cell? ⟨w.heap.size, i / 8, none⟩ = some (.int .u8 x.toNat) := by
          rw [hown.cellAt (i / 8) (by omega)]
          simp [show i / 8 < o.length by omega, hx, B]
        have hfrz : w'.frozen? ⟨w.heap.size, i / 8, none⟩ = false := hown.frozenAt (i / 8)
        obtain ⟨k2, hk2⟩ : ∃ k2, k2 = 7 - i % 8 := ⟨_, rfl⟩
        have hs2 : (7 - (i : Int) % 8) = (k2 : Int) := by omega
        have hk2' : k2 ≤ 7 := by omega
        have hxl := x.toNat_lt
        have Hset : Hid ((x.toNat ||| v * 2 ^ k2) < 256 ∧ ∀ t, t < 8 * L → bitB (o.set (i / 8) (UInt8.ofNat (x.toNat ||| v * 2 ^ k2))) t = if t < i + 1 then bitS row l t else 0) := setBit row l o i L k2 v x h8 hol hk2 hx hv2 Hb.out Ht.out
        have Hor : Hid (bits .or .u8 (x.toNat : Int) (wrap64 ((v : Int) * 2 ^ k2) % 256) = ((x.toNat ||| v * 2 ^ k2 : Nat) : Int)) := orByte x.toNat v k2 hxl hv2 hk2'
        clear hk2 hx Hb hol
        go_wp2
        rw [Hor.out]
        have hst := (hown.stored (i / 8) (.int .u8 ((x.toNat ||| v * 2 ^ k2 : Nat) : Int))).1
        have ey : B (UInt8.ofNat (x.toNat ||| v * 2 ^ k2)) = .int .u8 ((x.toNat ||| v * 2 ^ k2 : Nat) : Int) := by
          unfold B
          rw [UInt8.toNat_ofNat', Nat.mod_eq_of_lt Hset.out.1]
        rw [← ey, ← List.map_set] at hst
        rw [← ey]
        refine ⟨⟨i + 1, o.set (i / 8) (UInt8.ofNat (x.toNat ||| v * 2 ^ k2)), by go_num, by omega, hst, ?_, Hset.out.2, fun t h1 h2 => Hz.out t h1 (by omega), hbl.setCell (Nat.le_refl _) _⟩, by simp [intOf]; omega⟩
        show (List.set _ _ _).length = L
        rw [List.length_set]
        exact Hol.out
      · have hv01 : v = 0 ∨ v = 1 := by omega
        rcases hv01 with rfl | rfl
        · go_wp2
          refine ⟨⟨i + 1, o, by go_num, by omega, hown, Hol, fun t ht => ?_, fun t h1 h2 => ?_, hbl⟩, by simp [intOf]; omega⟩
          · rw [Ht.out t ht, if_pos (by omega), if_pos (by omega)]
          · by_cases hti : t = i
            · subst hti; exact Hb.out
            · exact Hz.out t h1 (by omega)
        · have Hn : Hid (dec row l = none) := by
            show dec row l = none
            cases hd : dec row l with
            | none => rfl
            | some b =>
              have := HB.out
              rw [hd] at this
              obtain ⟨h1, h2, h3⟩ := this
              have h4 := h3 i (by have := HL.out; omega) hlt
              rw [Hb.out] at h4
              cases h4
          go_wp2
          go_ret2
          rw [Hrw.out]
          exact ⟨.inr ⟨Hn.out, rfl⟩, hbl⟩
    · have Hs : Hid (dec row l = some o) := by
        show dec row l = some o
        have hL := HL.out
        cases hd : dec row l with
        | none =>
          have := HB.out
          rw [hd] at this
          obtain ⟨t, h1, h2, h3⟩ := this
          have := Hz.out t (by omega) (by omega)
          omega
        | some b =>
          have := HB.out
          rw [hd] at this
          obtain ⟨h1, h2, h3⟩ := this
          congr 1
          refine bits_ext b o (by rw [h1, Hol.out, hL]) fun t ht => ?_
          rw [h2 t ht, Ht.out t (by omega), if_pos (by omega)]
      go_wp2
      go_ret2
      rw [Hrw.out]
      have hol := Hol.out
      refine ⟨.inl ⟨o, Hs.out, ?_, ?_⟩, hbl⟩
      · rw [hol]
        rfl
      · rw [hol]
        exact hown

end Go.Proofs.Ytbgooffhikchmaa.B64