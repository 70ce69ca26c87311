import Derived.Test.YtdhfjhdlimmjhaaGreatDoorLt
import Derived.Test.YtdhfjhdlimmjhaaGreatDoorShZe
import Derived.Test.YtdhfjhdlimmjhaaGreatDoorB6Z
import Derived.Lib.ConvBytes
namespace Go.Proofs.YtdhfjhdlimmjhaaGreatDoor
open Go.RowKit
set_option maxRecDepth 100000

def hhF (a : Int) : Int :=
  if a = 1 ∨ a = 4 ∨ a = 7 ∨ a = 10 then 1 else if a = 2 ∨ a = 5 ∨ a = 8 ∨ a = 11 then 2 else if a = 3 ∨ a = 6 ∨ a = 9 ∨ a = 12 then 3 else 0

theorem hh_cases (a : Int) : (a = 1 ∨ a = 2 ∨ a = 3 ∨ a = 4 ∨ a = 5 ∨ a = 6 ∨ a = 7 ∨ a = 8 ∨ a = 9 ∨ a = 10 ∨ a = 11 ∨ a = 12) ∨ (hhF a = 0 ∧ ∀ k : Int, 1 ≤ k → k ≤ 12 → (a == k) = false) := by
  by_cases h : 1 ≤ a ∧ a ≤ 12
  · left; omega
  · right
    refine ⟨?_, fun k h1 h2 => beq_eq_false_iff_ne.2 (by omega)⟩
    unfold hhF
    rw [if_neg (by omega), if_neg (by omega), if_neg (by omega)]

theorem hh_is (a : Int) : hhF a = 0 ∨ hhF a = 1 ∨ hhF a = 2 ∨ hhF a = 3 := by
  unfold hhF
  (repeat' split) <;> simp

theorem hashOf_any (a : Int) (w : World) : Calls Tryz.prog 35 #[.int .i64 a] w fun e w' => e = .returned (.int .i64 (hhF a)) ∧ w' = w := by
  rcases hh_cases a with h | ⟨h0, h⟩
  · rcases h with rfl | rfl | rfl | rfl | rfl | rfl | rfl | rfl | rfl | rfl | rfl | rfl <;>
    · go_enter Tryz.func35, Tryz.ntmps35
      go_wp2
      go_ret
      exact ⟨rfl, rfl⟩
  · rw [h0]
    have d1 := h 1 (by omega) (by omega)
    have d2 := h 2 (by omega) (by omega)
    have d3 := h 3 (by omega) (by omega)
    have d4 := h 4 (by omega) (by omega)
    have d5 := h 5 (by omega) (by omega)
    have d6 := h 6 (by omega) (by omega)
    have d7 := h 7 (by omega) (by omega)
    have d8 := h 8 (by omega) (by omega)
    have d9 := h 9 (by omega) (by omega)
    have da := h 10 (by omega) (by omega)
    have db := h 11 (by omega) (by omega)
    have dc := h 12 (by omega) (by omega)
    clear h h0
    go_enter Tryz.func35, Tryz.ntmps35
    go_wp2
    go_ret
    exact ⟨rfl, rfl⟩

def halfF (a : Int) (t : List UInt8) : List UInt8 × Nat :=
  if hhF a = 0 then ([], 111) else (B64.enc B64.urlRow ((Sha.sumF (hhF a) t).take (Sha.siz (hhF a) / 2)), 0)

theorem bytesWorld_bel (w : World) (e : TypeId) (s : ByteArray) : Below w.heap.size w (Lib.bytesWorld w e s) :=
  ⟨rfl, rfl, rfl, by rw [Lib.bytesWorld_size]; omega, fun k hk => Lib.bytesWorld_at_old w e s k hk⟩

theorem conv_bytes (l : List UInt8) (w : World) (hl : l.length ≤ 1000000000) : ∃ c W1, (convert 9 81 (.string ⟨l.toArray⟩)).run Tryz.prog w = .ok (.slice (some ⟨w.heap.size, 0, none⟩) l.length c) W1 ∧ Rd W1 (some ⟨w.heap.size, 0, none⟩) l ∧ l.length ≤ c ∧ c ≤ 9223372036854775807 ∧ Below w.heap.size w W1 := by
  have h1 := Lib.run_convert_string_bytes (P := Tryz.prog) w 9 81 5 ⟨l.toArray⟩ (u := .string) Tryz.underlying9 Tryz.underlying81 Tryz.underlying5
  have hs : (⟨l.toArray⟩ : ByteArray).size = l.length := by show l.toArray.size = _; simp
  rw [hs] at h1
  refine ⟨_, _, h1, .inr ⟨w.heap.size, 0, rfl, by rw [Lib.bytesWorld_size]; omega, fun j hj => ?_⟩, grownCap_ge _ _ _ _, Nat.le_trans (grownCap_le_maxLen _ _ _ _ (by unfold maxLen; omega)) (by unfold maxLen; omega), bytesWorld_bel _ _ _⟩
  rw [Nat.zero_add, Lib.bytesWorld_cell _ _ _ j (by rw [hs]; exact hj)]
  rfl

theorem rd_take {w : World} {ao : Option Addr} {l : List UInt8} (h : Rd w ao l) (k : Nat) : Rd w ao (l.take k) := by
  rcases h with h | ⟨g, off, e, hg, hc⟩
  · subst h; exact .inl (by simp)
  · refine .inr ⟨g, off, e, hg, fun j hj => ?_⟩
    have h1 : j < k ∧ j < l.length := by rw [List.length_take] at hj; omega
    rw [hc j h1.2, List.getD_eq_getElem?_getD, List.getD_eq_getElem?_getD, List.getElem?_take, if_pos h1.1]

theorem alloc_below9 (w : World) (o : Obj) : Below w.heap.size w (w.alloc o) := Below.alloc (Below.refl _ _) (Nat.le_refl _) _

theorem parts_one (w : World) (p : Sha.Prt) (h : Sha.prOk w p) : Sha.Pts (w.alloc (.cells #[Sha.prV p] 81)) (some ⟨w.heap.size, 0, none⟩) [p] := by
  refine ⟨.inr ⟨w.heap.size, 0, rfl, fun j hj => ?_⟩, ?_⟩
  · have hbl := alloc_bl w [Sha.prV p] 81
    have := hbl.cell j (by simpa using hj)
    rw [Nat.zero_add]
    refine this.trans ?_
    have e : [Sha.prV p] = [p].map Sha.prV := rfl
    simp only [e, List.getElem_map]
  · intro p' hp
    simp only [List.mem_singleton] at hp
    subst hp
    exact ⟨Sha.Rd.below h.1 (alloc_below9 w _) (Nat.le_refl _), h.2⟩

theorem own_some {w : World} {B0 : Nat} {a : Option Addr} {l : List UInt8} (h : Sha.Own w B0 a l) (hl : 0 < l.length) : ∃ g, a = some ⟨g, 0, none⟩ := by
  rcases h with ⟨_, rfl⟩ | ⟨g, e, _⟩
  · cases hl
  · exact ⟨g, e⟩

theorem half_ok (a h : Int) (n : Nat) (t : List UInt8) (w : World) (T : Sha.Tb w) (ht : t.length ≤ 1000000000) (hh : hhF a = h) (h3 : h = 1 ∧ n = 16 ∨ h = 2 ∧ n = 24 ∨ h = 3 ∧ n = 32) :
    Calls Tryz.prog 55 #[.int .i64 a, .string ⟨t.toArray⟩] w fun e w' => e = .returned (.tuple #[.string ⟨(B64.enc B64.urlRow ((Sha.sumF h t).take n)).toArray⟩, .int .i64 0]) ∧ Below w.heap.size w w' := by
  have C1 := hashOf_any a w
  rw [hh] at C1
  clear hh
  obtain ⟨c, W1, hcv, hr, hc1, hc2, hb⟩ := conv_bytes t w ht
  have b5 := alloc_below9 W1 (.cells #[.slice (some ⟨w.heap.size, 0, none⟩) t.length c] 81)
  have CQ := Sha.ssum_any h (some ⟨W1.heap.size, 0, none⟩) 1 [⟨some ⟨w.heap.size, 0, none⟩, c, t⟩] (W1.alloc (.cells #[.slice (some ⟨w.heap.size, 0, none⟩) t.length c] 81)) ((T.below hb).below b5) (parts_one W1 ⟨some ⟨w.heap.size, 0, none⟩, c, t⟩ ⟨hr, hc1, hc2⟩) (by simp) (by simp [Sha.cat]; omega)
  rw [show Sha.cat [⟨some ⟨w.heap.size, 0, none⟩, c, t⟩] = t by simp [Sha.cat]] at CQ
  have hlen := Sha.sumF_length h t
  have HB1 : Hid (Below w.heap.size w W1) := hb
  have HB5 : Hid (Below W1.heap.size W1 (W1.alloc (.cells #[.slice (some ⟨w.heap.size, 0, none⟩) t.length c] 81))) := b5
  clear hb b5 hr hc1 hc2 ht T
  rcases h3 with ⟨rfl, rfl⟩ | ⟨rfl, rfl⟩ | ⟨rfl, rfl⟩
  · rw [show Sha.siz 1 = 32 from rfl] at CQ hlen
    go_enter Tryz.func55, Tryz.ntmps55
    go_wp2_with fail
    refine C1.mono ?_
    rintro e w1 ⟨rfl, rfl⟩
    go_wp2_with fail
    refine CQ.mono ?_
    rintro e w2 ⟨a2, rfl, ho, hb2⟩
    obtain ⟨g, rfl⟩ := own_some ho (by omega)
    have hr2 : Rd w2 (some ⟨g, 0, none⟩) (Sha.sumF 1 t) := Sha.Own.rd ho
    have hl2 : ((Sha.sumF 1 t).take 16).length = 16 := by rw [List.length_take, hlen]; rfl
    have CE := B64.encode_any (some ⟨g, 0, none⟩) 32 ((Sha.sumF 1 t).take 16) w2 (rd_take hr2 16) (by omega) (by omega)
    rw [hl2] at CE
    have HB2 : Hid (Below _ _ w2) := hb2
    clear ho hb2 hr2 hlen hl2
    go_wp2_with fail
    refine CE.mono ?_
    rintro e w3 ⟨rfl, hb3⟩
    go_wp2
    go_ret2
    have h1 := HB1.out.trans (HB5.out.mono HB1.out.size)
    have h2 := h1.trans (HB2.out.mono h1.size)
    exact ⟨rfl, h2.trans (hb3.mono h2.size)⟩
  · rw [show Sha.siz 2 = 48 from rfl] at CQ hlen
    go_enter Tryz.func55, Tryz.ntmps55
    go_wp2_with fail
    refine C1.mono ?_
    rintro e w1 ⟨rfl, rfl⟩
    go_wp2_with fail
    refine CQ.mono ?_
    rintro e w2 ⟨a2, rfl, ho, hb2⟩
    obtain ⟨g, rfl⟩ := own_some ho (by omega)
    have hr2 : Rd w2 (some ⟨g, 0, none⟩) (Sha.sumF 2 t) := Sha.Own.rd ho
    have hl2 : ((Sha.sumF 2 t).take 24).length = 24 := by rw [List.length_take, hlen]; rfl
    have CE := B64.encode_any (some ⟨g, 0, none⟩) 48 ((Sha.sumF 2 t).take 24) w2 (rd_take hr2 24) (by omega) (by omega)
    rw [hl2] at CE
    have HB2 : Hid (Below _ _ w2) := hb2
    clear ho hb2 hr2 hlen hl2
    go_wp2_with fail
    refine CE.mono ?_
    rintro e w3 ⟨rfl, hb3⟩
    go_wp2
    go_ret2
    have h1 := HB1.out.trans (HB5.out.mono HB1.out.size)
    have h2 := h1.trans (HB2.out.mono h1.size)
    exact ⟨rfl, h2.trans (hb3.mono h2.size)⟩
  · rw [show Sha.siz 3 = 64 from rfl] at CQ hlen
    go_enter Tryz.func55, Tryz.ntmps55
    go_wp2_with fail
    refine C1.mono ?_
    rintro e w1 ⟨rfl, rfl⟩
    go_wp2_with fail
    refine CQ.mono ?_
    rintro e w2 ⟨a2, rfl, ho, hb2⟩
    obtain ⟨g, rfl⟩ := own_some ho (by omega)
    have hr2 : Rd w2 (some ⟨g, 0, none⟩) (Sha.sumF 3 t) := Sha.Own.rd ho
    have hl2 : ((Sha.sumF 3 t).take 32).length = 32 := by rw [List.length_take, hlen]; rfl
    have CE := B64.encode_any (some ⟨g, 0, none⟩) 64 ((Sha.sumF 3 t).take 32) w2 (rd_take hr2 32) (by omega) (by omega)
    rw [hl2] at CE
    have HB2 : Hid (Below _ _ w2) := hb2
    clear ho hb2 hr2 hlen hl2
    go_wp2_with fail
    refine CE.mono ?_
    rintro e w3 ⟨rfl, hb3⟩
    go_wp2
    go_ret2
    have h1 := HB1.out.trans (HB5.out.mono HB1.out.size)
    have h2 := h1.trans (HB2.out.mono h1.size)
    exact ⟨rfl, h2.trans (hb3.mono h2.size)⟩
theorem half_any (a : Int) (t : List UInt8) (w : World) (T : Sha.Tb w) (ht : t.length ≤ 1000000000) :
    Calls Tryz.prog 55 #[.int .i64 a, .string ⟨t.toArray⟩] w fun e w' => e = .returned (.tuple #[.string ⟨(halfF a t).1.toArray⟩, .int .i64 ((halfF a t).2 : Nat)]) ∧ Below w.heap.size w w' := by
  unfold halfF
  rcases hh_is a with h | h | h | h
  · rw [if_pos h]
    have C1 := hashOf_any a w
    rw [h] at C1
    clear T
    go_enter Tryz.func55, Tryz.ntmps55
    go_wp2_with fail
    refine C1.mono ?_
    rintro e w1 ⟨rfl, rfl⟩
    go_wp2
    go_ret2
    exact ⟨rfl, Below.refl _ _⟩
  · rw [if_neg (by omega)]
    have := half_ok a 1 16 t w T ht h (.inl ⟨rfl, rfl⟩)
    rw [h]
    exact this
  · rw [if_neg (by omega)]
    have := half_ok a 2 24 t w T ht h (.inr (.inl ⟨rfl, rfl⟩))
    rw [h]
    exact this
  · rw [if_neg (by omega)]
    have := half_ok a 3 32 t w T ht h (.inr (.inr ⟨rfl, rfl⟩))
    rw [h]
    exact this

end Go.Proofs.YtdhfjhdlimmjhaaGreatDoor
