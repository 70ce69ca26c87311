import Derived.Test.YthnogdkkdekgpaaDoorPA
namespace Go.Proofs.YthnogdkkdekgpaaDoor
open Go.RowKit

theorem width_any (b : Nat) (w : World) (hb : b ≤ 1000000) : Calls Tryd.prog 42 #[.int .i64 (b : Int)] w fun e w' => e = .returned (.int .i64 (wid b : Int)) ∧ w' = w := by
  obtain ⟨m, Hm⟩ : ∃ m, Hid (b + 7 = m) := ⟨_, rfl⟩
  obtain ⟨n, Hn⟩ : ∃ n, Hid (m / 8 = n) := ⟨_, rfl⟩
  have e0 : wid b = n := by unfold wid; rw [Hm.out, Hn.out]
  rw [e0]
  have hm : m ≤ 1000007 := by rw [← Hm.out]; omega
  have e1 : (b : Int) + 7 = (m : Int) := by rw [← Hm.out]; omega
  have e2 : Int.tdiv (m : Int) 8 = (n : Int) := by rw [Int.tdiv_eq_ediv_of_nonneg (by omega), ← Hn.out]; omega
  have e3 : (m : Int) / 8 = (n : Int) := by rw [← Hn.out]; omega
  clear e0
  go_enter Tryd.func42, Tryd.ntmps42
  go_wp2
  go_ret
  exact ⟨rfl, rfl⟩

theorem tobe_get' (n N k : Nat) (h : k < (tobe n N).length) : (tobe n N)[k].toNat = N / 256 ^ (n - 1 - k) % 256 := by
  simp [tobe]

/-- The first k bytes of a counter, noughts behind. -/
def ctL (i k : Nat) : List UInt8 := (tobe 4 i).take k ++ List.replicate (4 - k) 0
theorem ctL_length (i k : Nat) (hk : k ≤ 4) : (ctL i k).length = 4 := by simp [ctL, tobe_length]; omega
theorem ctL_set (i k : Nat) (hk : k < 4) (v : UInt8) (hv : v.toNat = i / 256 ^ (3 - k) % 256) : ((ctL i k).map B).set k (B v) = (ctL i (k + 1)).map B := by
  rw [← List.map_set]
  congr 1
  unfold ctL
  have hl : k < (tobe 4 i).length := by rw [tobe_length]; exact hk
  have hv2 : v = (tobe 4 i)[k] := UInt8.toNat_inj.1 (by rw [tobe_get', hv])
  rw [List.set_append_right _ _ (by rw [List.length_take, tobe_length]; omega), List.length_take, tobe_length, Nat.min_eq_left (by omega), Nat.sub_self, show 4 - k = (4 - (k + 1)) + 1 by omega, List.replicate_succ, List.set_cons_zero, List.take_succ_eq_append_getElem hl, hv2, List.append_assoc]
  rfl

set_option maxHeartbeats 1000000 in
theorem counter_any (i : Nat) (w : World) (hi : i ≤ 100000) : Calls Tryd.prog 39 #[.int .i64 (i : Int)] w fun e w' => e = .returned (.slice (some ⟨w.heap.size, 0, none⟩) 4 4) ∧ Bl 5 w' w.heap.size ((tobe 4 i).map B) ∧ Below w.heap.size w w' := by
  obtain ⟨wm, hmk0, hb0, hbel0⟩ := madeB w 4 (by omega)
  have hmk : (Instr.makeSlice 23 (.int .i64 4) (.int .i64 4)).run Tryd.prog w = .ok (.slice (some ⟨w.heap.size, 0, none⟩) 4 4) wm := hmk0
  have HB0 : Hid (Bl 5 wm w.heap.size ((ctL i 0).map B)) := hb0
  have HW0 : Hid (Below w.heap.size w wm) := hbel0
  clear hmk0 hb0 hbel0
  go_enter Tryd.func39, Tryd.ntmps39
  go_wp2
  clear hmk
  go_loopw [4, 8] (fun _ s wr => ∃ k : Nat, s = .int .i64 (k : Int) ∧ k ≤ 4 ∧ Hid (Bl 5 wr w.heap.size ((ctL i k).map B)) ∧ Hid (Below w.heap.size w wr)) (fun _ s _ => 4 - (intOf s).toNat)
  case atStart => exact ⟨0, rfl, by omega, HB0, HW0⟩
  case round =>
    clear HB0 HW0
    obtain ⟨k, rfl, hk, HB, HW⟩ := hrel
    have hlk := ctL_length i k hk
    by_cases hlt : k < 4
    · have gf := HB.out.frozen k
      obtain ⟨old, gc⟩ : ∃ v, wr.cell? ⟨w.heap.size, k, none⟩ = some v := ⟨_, HB.out.cell k (by rw [List.length_map, hlk]; exact hlt)⟩
      obtain ⟨v, hv⟩ : ∃ v : UInt8, v.toNat = i / 256 ^ (3 - k) % 256 := ⟨UInt8.ofNat (i / 256 ^ (3 - k) % 256), by rw [UInt8.toNat_ofNat']; exact Nat.mod_eq_of_lt (Nat.mod_lt _ (by decide))⟩
      have HB2 : Hid (Bl 5 (wr.setCell ⟨w.heap.size, k, none⟩ (B v)) w.heap.size ((ctL i (k + 1)).map B)) := by
        have := HB.out.set k (B v)
        rw [ctL_set i k hlt v hv] at this
        exact this
      have HV : Hid (B v = .int .u8 ((i : Int) / 2 ^ (8 * (3 - k)) % 256)) := by show _ = _; unfold B; rw [hv, Sha.shr8]
      have HBS : Hid (Below w.heap.size w (wr.setCell ⟨w.heap.size, k, none⟩ (B v))) := HW.out.setCell (Nat.le_refl _) _
      clear hlk hv
      rw [HV.out] at HB2 HBS
      clear HV
      rcases (by omega : k = 0 ∨ k = 1 ∨ k = 2 ∨ k = 3) with rfl | rfl | rfl | rfl
      · have e : ((i : Int) / 2 ^ (8 * (3 - 0)) % 256) = (i : Int) / 16777216 := by rw [show ((2 : Int) ^ (8 * (3 - 0))) = 16777216 by decide]; omega
        rw [e] at HB2 HBS
        clear e
        go_wp2
        exact ⟨⟨1, by go_num, by omega, HB2, HBS⟩, by simp [intOf]⟩
      · have e : ((i : Int) / 2 ^ (8 * (3 - 1)) % 256) = (i : Int) / 65536 := by rw [show ((2 : Int) ^ (8 * (3 - 1))) = 65536 by decide]; omega
        rw [e] at HB2 HBS
        clear e
        go_wp2
        exact ⟨⟨2, by go_num, by omega, HB2, HBS⟩, by simp [intOf]⟩
      · go_wp2
        exact ⟨⟨3, by go_num, by omega, HB2, HBS⟩, by simp [intOf]⟩
      · go_wp2
        exact ⟨⟨4, by go_num, by omega, by simpa using HB2, by simpa using HBS⟩, by simp [intOf]⟩
    · obtain rfl : k = 4 := by omega
      clear hlk hlt hk
      go_wp2
      go_ret
      refine ⟨rfl, ?_, HW.out⟩
      have := HB.out
      unfold ctL at this
      rwa [List.take_of_length_le (by rw [tobe_length]; exact Nat.le_refl _), Nat.sub_self, List.replicate_zero, List.append_nil] at this

/-- The first k bytes mixed. -/
def mxL (l ms : List UInt8) (k : Nat) : List UInt8 := xorL (l.take k) (ms.take k) ++ l.drop k
theorem mxL_zero (l ms : List UInt8) : mxL l ms 0 = l := by simp [mxL, xorL]
theorem mxL_full (l ms : List UInt8) (h : ms.length = l.length) : mxL l ms l.length = xorL l ms := by
  unfold mxL
  rw [List.take_length, List.drop_length, List.append_nil, ← h, List.take_length]
theorem mxL_pre (l ms : List UInt8) (k : Nat) (h : ms.length = l.length) (hk : k ≤ l.length) : (xorL (l.take k) (ms.take k)).length = k := by
  rw [xorL_length, List.length_take, List.length_take]; omega
theorem mxL_length (l ms : List UInt8) (k : Nat) (h : ms.length = l.length) (hk : k ≤ l.length) : (mxL l ms k).length = l.length := by
  unfold mxL
  rw [List.length_append, mxL_pre l ms k h hk, List.length_drop]; omega
theorem mxL_get (l ms : List UInt8) (k : Nat) (h : ms.length = l.length) (hk : k < l.length) (hk2 : k < (mxL l ms k).length) : (mxL l ms k)[k] = l[k] := by
  have hp := mxL_pre l ms k h (by omega)
  have : (xorL (l.take k) (ms.take k) ++ l.drop k)[k]'(by rw [List.length_append, hp, List.length_drop]; omega) = l[k] := by
    rw [List.getElem_append_right (by omega)]
    simp [hp]
  exact this
theorem mxL_set (l ms : List UInt8) (k : Nat) (h : ms.length = l.length) (hk : k < l.length) (v : UInt8) (hv : v = l[k] ^^^ ms[k]) : (mxL l ms k).set k v = mxL l ms (k + 1) := by
  have hp := mxL_pre l ms k h (by omega)
  unfold mxL
  rw [List.set_append_right _ _ (by omega), hp, Nat.sub_self, List.drop_eq_getElem_cons hk, List.set_cons_zero, List.take_succ_eq_append_getElem hk, List.take_succ_eq_append_getElem (by omega : k < ms.length)]
  unfold xorL
  rw [List.zipWith_append (by rw [List.length_take, List.length_take]; omega), hv]
  simp

set_option maxHeartbeats 1000000 in
theorem mix_any (g c cm : Nat) (am : Option Addr) (l r ms : List UInt8) (w : World) (hb : Bl 5 w g ((l ++ r).map B)) (hm : Rd w am ms) (hne : ∀ a, am = some a → a.block ≠ g) (hl : ms.length = l.length) (hlen : l.length ≤ 1000000) :
    Calls Tryd.prog 43 #[.slice (some ⟨g, 0, none⟩) l.length c, .slice am ms.length cm] w fun e w' => e = .returned (.tuple #[]) ∧ Bl 5 w' g ((xorL l ms ++ r).map B) ∧ But w w' g := by
  have HB0 : Hid (Bl 5 w g ((mxL l ms 0 ++ r).map B)) := by rw [mxL_zero]; exact hb
  have HM : Hid (Rd w am ms) := hm
  have HN : Hid (∀ a, am = some a → a.block ≠ g) := hne
  have HL : Hid (ms.length = l.length) := hl
  clear hb hm hne hl
  go_enter Tryd.func43, Tryd.ntmps43
  go_wp2
  go_loopw [4, 7] (fun _ s wr => ∃ k : Nat, s = .int .i64 (k : Int) ∧ k ≤ ms.length ∧ Hid (Bl 5 wr g ((mxL l ms k ++ r).map B)) ∧ Hid (But w wr g)) (fun _ s _ => ms.length - (intOf s).toNat)
  case atStart => exact ⟨0, rfl, by omega, HB0, But.refl _ _⟩
  case round =>
    clear HB0
    obtain ⟨k, rfl, hk, HB, HW⟩ := hrel
    by_cases hlt : k < ms.length
    · have hkl : k < l.length := by have := HL.out; omega
      have hml := mxL_length l ms k HL.out (by omega)
      have gf := HB.out.frozen k
      have gb := HB.out.cell k (by rw [List.length_map, List.length_append, hml]; omega)
      rw [List.getElem_map, List.getElem_append_left (by rw [hml]; exact hkl), mxL_get l ms k HL.out hkl] at gb
      obtain ⟨gm, om, rfl, hgm, hcm⟩ := HM.out.resolve_left (fun e => by rw [e] at hlt; simp at hlt)
      have hmne : gm ≠ g := HN.out _ rfl
      have gy0 : wr.cell? ⟨gm, om + k, none⟩ = some (B (ms.getD k 0)) := cell_but (hcm k hlt) fun h1 => HW.out.block gm h1 hmne
      rw [List.getD_eq_getElem?_getD, List.getElem?_eq_getElem hlt, Option.getD_some] at gy0
      have hx := xor_b l[k] ms[k]
      have HB2 : Hid (Bl 5 (wr.setCell ⟨g, k, none⟩ (B (l[k] ^^^ ms[k]))) g ((mxL l ms (k + 1) ++ r).map B)) := by
        have := HB.out.set k (B (l[k] ^^^ ms[k]))
        rw [← List.map_set, List.set_append_left _ _ (by rw [hml]; exact hkl), mxL_set l ms k HL.out hkl _ rfl] at this
        exact this
      have HW2 : Hid (But w (wr.setCell ⟨g, k, none⟩ (B (l[k] ^^^ ms[k]))) g) := HW.out.set _ _
      generalize l[k] ^^^ ms[k] = z at *
      generalize l[k] = x at *
      generalize ms[k] = y at *
      unfold B at gb gy0 HB2 HW2
      have hki : (k : Int) < (l.length : Int) := by omega
      clear hml hcm
      go_wp2
      refine wp_region_tail 10 (by kernel_rfl) (by kernel_rfl) ?_
      simp only [List.take_succ_cons, List.take_zero, List.drop_succ_cons, List.drop_zero]
      repeat (first | go_big_quiet_skip | (go_big_quiet_want; go_big_quiet_op; go_big_quiet_on))
      refine wpQuiet_nil ?_
      go_wp2
      exact ⟨⟨k + 1, by go_num, by omega, HB2, HW2.out.drewN _⟩, by simp [intOf]; omega⟩
    · obtain rfl : k = ms.length := by omega
      go_wp2
      go_end0
      refine ⟨rfl, ?_, HW.out⟩
      have := HB.out
      rwa [HL.out, mxL_full l ms HL.out] at this

end Go.Proofs.YthnogdkkdekgpaaDoor
