import Derived.Test.YtjpjepfmphlneaaGreatDoorE1
namespace Go.Proofs.YtjpjepfmphlneaaGreatDoor
open Go.RowKit

set_option maxRecDepth 100000

theorem take_next {l : List UInt8} {j : Nat} (h : j < l.length) : l.take (j + 1) = l.take j ++ [l[j]] := by rw [List.take_succ_eq_append_getElem h]
theorem u8_lit (w : World) (c : UInt8) : Rd (w.alloc (.cells #[.int .u8 (c.toNat : Int)] 5)) (some ⟨w.heap.size, 0, none⟩) [c] := rd_const w [c] (0, 0)
set_option maxHeartbeats 8000000 in
theorem little_v (ao : Option Addr) (cap : Nat) (l : List UInt8) (w : World) (hr : Rd w ao l) (hl : l.length ≤ 64) (h0 : 0 < l.length) : Calls Tryz.prog 35 #[.slice ao l.length cap] w fun e w' => ∃ r, e = .returned r ∧ Rk w w' r (leN l) (8 * l.length) := by
  obtain ⟨i, hi, hz, hsize, hby⟩ := info_u8
  obtain ⟨g, off, rfl⟩ : ∃ g off : Nat, ao = some ⟨g, off, none⟩ := by
    rcases hr with h | ⟨g, off, e, _⟩
    · subst h; simp at h0
    · exact ⟨g, off, e⟩
  obtain ⟨n, Hn⟩ : ∃ n, Hid (l.length = n) := ⟨_, rfl⟩
  have HR : Hid (Rd w (some ⟨g, off, none⟩) l) := hr
  rw [Hn.out]
  rw [Hn.out] at hl h0
  clear hr
  go_enter Tryz.func35, Tryz.ntmps35
  go_wp2
  go_loopw [3, 4] (fun s3 s4 wr => ∃ (w' : World) (j : Nat) (v : Value), w' = wr ∧ v = s3 ∧ s4 = .int .i64 ((n : Int) - 1 - (j : Int)) ∧ j ≤ n ∧ Hid (Owb w' w.heap.size v (l.reverse.take j) ∧ Below w.heap.size w w')) (fun _ s4 _ => (intOf s4 + 1).toNat)
  case atStart => exact ⟨w, 0, .slice none 0 0, rfl, rfl, by simp, Nat.zero_le _, by rw [List.take_zero]; exact Owb.nil w w.heap.size, Below.refl _ _⟩
  case round =>
    obtain ⟨w', j, v, rfl, rfl, rfl, hj, HI⟩ := hrel
    by_cases hlt : j < n
    · obtain ⟨k, hk⟩ : ∃ k : Nat, (n : Int) - 1 - (j : Int) = (k : Int) := ⟨n - 1 - j, by omega⟩
      have hkn : k < n := by omega
      have hkl : k < l.length := by rw [Hn.out]; exact hkn
      have hjr : j < l.reverse.length := by rw [List.length_reverse, Hn.out]; exact hlt
      obtain ⟨c, hc⟩ : ∃ c, l[k] = c := ⟨_, rfl⟩
      have Hc : Hid (l.reverse.take (j + 1) = l.reverse.take j ++ [c]) := (by
        rw [take_next hjr, List.getElem_reverse, ← hc]
        congr 3
        have := Hn.out
        omega : l.reverse.take (j + 1) = l.reverse.take j ++ [c])
      have ck : w'.cell? ⟨g, off + k, none⟩ = some (.int .u8 (c.toNat : Int)) := by
        have h1 := HR.out.below HI.out.2 (Nat.le_refl _)
        rcases h1 with h2 | ⟨b, o2, e2, _, hcell⟩
        · subst h2; simp at hkl
        · cases e2
          have h3 := hcell k hkl
          rw [h3, List.getD_eq_getElem?_getD, List.getElem?_eq_getElem hkl, Option.getD_some, hc]
          rfl
      have HJ : Hid ((n : Int) - 1 - ((j + 1 : Nat) : Int) = (k : Int) - 1) := (by omega : (n : Int) - 1 - ((j + 1 : Nat) : Int) = (k : Int) - 1)
      have HO : Hid ((l.reverse.take j).length = j) := (by rw [List.length_take]; omega : (l.reverse.take j).length = j)
      rw [hk]
      clear hc hk hkl hjr
      generalize hzc : (c.toNat : Int) = zc at ck
      obtain ⟨lj, Hlj⟩ : ∃ lj, Hid (lj = l.reverse.take j) := ⟨_, rfl⟩
      rw [← Hlj.out] at HO Hc
      have HB2 : Hid (Below w.heap.size w (w'.alloc (.cells #[.int .u8 zc] 5))) := HI.out.2.alloc HI.out.2.size _
      have HO2 : Hid (Owb (w'.alloc (.cells #[.int .u8 zc] 5)) w.heap.size v lj) := Hlj.out ▸ HI.out.1.below (alloc_below _ _) (Nat.le_refl _)
      have HR2 : Hid (Rd (w'.alloc (.cells #[.int .u8 zc] 5)) (some ⟨w'.heap.size, 0, none⟩) [c]) := hzc ▸ u8_lit w' c
      clear hzc
      go_wp2_with (at_builtin; refine append_rdE rfl (.tmp 12) (.tmp 17) rfl w.heap.size i hi hz hsize hby v _ lj rfl HO2.out _ 1 1 [c] rfl rfl (fun e => by cases e) HR2.out (by rw [HO.out]; omega) HB2.out.size ?_)
      intro v1 w4 ho4 hg4
      have HF : Hid (Owb w4 w.heap.size v1 (l.reverse.take (j + 1)) ∧ Below w.heap.size w w4) := ⟨by rw [Hc.out]; unfold Owb; rw [List.length_append, List.map_append]; exact ho4, HB2.out.grown hg4 HB2.out.size (fun q hq => (HO2.out.lt q hq).1)⟩
      clear ho4 hg4 ck
      go_wp2
      refine ⟨⟨_, j + 1, _, rfl, rfl, ?_, by omega, HF.out⟩, by simp [intOf]⟩
      rw [HJ.out]
    · obtain rfl : j = n := by omega
      have h1 : ¬ (0 : Int) ≤ (j : Int) - 1 - (j : Int) := by omega
      have hO := HI.out.1
      rw [List.take_of_length_le (by rw [List.length_reverse, Hn.out]; omega)] at hO
      obtain ⟨vo, vc, rfl, hc1, _, hr1⟩ := owb_open hO
      have C := fromBytes_any vo vc l.reverse w' hr1 (by rw [List.length_reverse, Hn.out]; omega)
      rw [List.length_reverse, Hn.out] at C
      rw [List.length_reverse, Hn.out]
      clear hO hc1 hr1
      go_wp2_with fail
      refine C.mono ?_
      clear C
      rintro e w3 ⟨r, rfl, hO, hB⟩
      have hlt : leN l < pw (8 * j) := by rw [← pw8, ← Hn.out]; exact leN_lt l
      have HX : Hid (Rk w w3 r (leN l) (8 * j)) := ⟨⟨hO.base HI.out.2.size, Nat.le_trans (dgl_pw hlt (by omega)) (by decide), HI.out.2.trans (hB.mono HI.out.2.size)⟩, hlt⟩
      obtain ⟨r0, r1, r2, rfl⟩ := HX.out.sl
      clear hO hB hlt
      go_wp2
      go_ret
      exact ⟨_, rfl, HX.out⟩
set_option maxHeartbeats 8000000 in
theorem challenge_v (af ap am : Option Addr) (cf cp cm : Nat) (f pub msg : List UInt8) (w : World) (T : Te w) (TS : Sha.Tb w) (hf : Rd w af f) (hp : Rd w ap pub) (hm : Rd w am msg) (hcf : f.length ≤ cf ∧ cf ≤ 9223372036854775807) (hcp : pub.length ≤ cp ∧ cp ≤ 9223372036854775807) (hcm : msg.length ≤ cm ∧ cm ≤ 9223372036854775807) (hl : f.length + pub.length + msg.length < 1152921504606846976) :
    Calls Tryz.prog 27 #[.slice af f.length cf, .slice ap pub.length cp, .slice am msg.length cm] w fun e w' => ∃ r, e = .returned r ∧ Rk w w' r (kV f pub msg) 256 := by
  have hbb := alloc_below w (.cells #[.slice af f.length cf, .slice ap pub.length cp, .slice am msg.length cm] 22)
  have hpt := parts3 w ⟨af, cf, f⟩ ⟨ap, cp, pub⟩ ⟨am, cm, msg⟩ ⟨hf, hcf⟩ ⟨hp, hcp⟩ ⟨hm, hcm⟩
  unfold Sha.prV at hpt
  have CQ := Sha.ssum_any 3 (some ⟨w.heap.size, 0, none⟩) 3 [⟨af, cf, f⟩, ⟨ap, cp, pub⟩, ⟨am, cm, msg⟩] _ (TS.below hbb) hpt (by simp) (by simp [Sha.cat]; omega)
  rw [show Sha.cat [⟨af, cf, f⟩, ⟨ap, cp, pub⟩, ⟨am, cm, msg⟩] = f ++ pub ++ msg by simp [Sha.cat]] at CQ
  replace CQ : Calls Tryz.prog 42 #[.int .i64 3, .slice (some ⟨w.heap.size, 0, none⟩) 3 3] (w.alloc (.cells #[.slice af f.length cf, .slice ap pub.length cp, .slice am msg.length cm] 22)) fun e w' => ∃ a, e = .returned (.slice a 64 64) ∧ Sha.Own w' (w.alloc (.cells #[.slice af f.length cf, .slice ap pub.length cp, .slice am msg.length cm] 22)).heap.size a (Sha.sumF 3 (f ++ pub ++ msg)) ∧ Below (w.alloc (.cells #[.slice af f.length cf, .slice ap pub.length cp, .slice am msg.length cm] 22)).heap.size (w.alloc (.cells #[.slice af f.length cf, .slice ap pub.length cp, .slice am msg.length cm] 22)) w' := CQ
  have HL : Hid ((Sha.sumF 3 (f ++ pub ++ msg)).length = 64) := Sha.sumF_length 3 _
  have HB0 : Hid (Below w.heap.size w (w.alloc (.cells #[.slice af f.length cf, .slice ap pub.length cp, .slice am msg.length cm] 22))) := hbb
  have HT : Hid (Te w) := T
  obtain ⟨N, HN⟩ : ∃ N, Hid (N = leN (Sha.sumF 3 (f ++ pub ++ msg))) := ⟨_, rfl⟩
  clear hbb hpt T TS hf hp hm hcf hcp hcm hl
  go_enter Tryz.func27, Tryz.ntmps27
  go_wp2_with fail
  generalize (w.alloc (.cells #[.slice af f.length cf, .slice ap pub.length cp, .slice am msg.length cm] 22)) = w0 at *
  refine CQ.mono ?_
  clear CQ
  rintro e w1 ⟨da, rfl, ho, hq⟩
  have HB1 : Hid (Below w.heap.size w w1) := HB0.out.trans (hq.mono HB0.out.size)
  have C := little_v da 64 _ w1 ho.rd (by rw [HL.out]; decide) (by rw [HL.out]; decide)
  rw [HL.out, ← HN.out] at C
  clear ho hq
  go_wp2_with fail
  refine C.mono ?_
  clear C
  rintro e w2 ⟨hv, rfl, h⟩
  have HB2 : Hid (Below w.heap.size w w2) := HB1.out.trans (h.bel.mono HB1.out.size)
  have HV : Hid (Nk w2 hv N 512) := h.nb
  clear h
  go_wp2_with fail
  refine (order_v _ (HT.out.below HB2.out (Nat.le_refl _))).mono ?_
  rintro e w3 ⟨ov, rfl, h⟩
  have HB3 : Hid (Below w.heap.size w w3) := HB2.out.trans (h.bel.mono HB2.out.size)
  have C := ediv_v hv ov N 512 w3 (HV.out.below h.bel (Nat.le_refl _)) h.nb
  clear h
  go_wp2_with fail
  refine C.mono ?_
  clear C
  rintro e w4 ⟨qv, kv, rfl, ⟨q0', q1', q2', rfl⟩, h⟩
  have HX : Hid (Rk w w4 kv (kV f pub msg) 256) := (by
    unfold kV
    rw [← HN.out]
    exact h.later' HB3.out : Rk w w4 kv (kV f pub msg) 256)
  obtain ⟨k0, k1, k2, rfl⟩ := h.sl
  clear h
  go_wp2
  go_ret
  exact ⟨_, rfl, HX.out⟩
end Go.Proofs.YtjpjepfmphlneaaGreatDoor
