import Derived.Test.YtefpjjonmoofpaaDoorShapeM
import Derived.Test.YtefpjjonmoofpaaDoorShRSum
import Derived.Test.YtefpjjonmoofpaaDoorShSumsH
namespace Go.Proofs.YtefpjjonmoofpaaDoor
open Go.RowKit

theorem info_doc {h : Int} (hh : Sha.isH h) : info h = [48, UInt8.ofNat (17 + Sha.siz h), 48, 13, 6, 9, 96, 134, 72, 1, 101, 3, 4, 2, UInt8.ofNat h.toNat, 5, 0, 4, UInt8.ofNat (Sha.siz h)] := by rcases hh with rfl | rfl | rfl <;> rfl

set_option maxRecDepth 100000 in
theorem rinfo_any (h : Int) (w : World) (hh : Sha.isH h) : Calls Tryd.prog 36 #[.int .i64 h] w fun e w' => ∃ v, e = .returned v ∧ OBb w.heap.size w w' v (info h) := by
  have C := Sha.rsize_any h w
  have HO : Hid (OBb w.heap.size w (w.alloc (.cells ((info h).map B).toArray 5)) (.slice (some ⟨w.heap.size, 0, none⟩) 19 19) (info h)) := by
    have := (alloc_bl w ((info h).map B) 5).owb (Nat.le_refl w.heap.size) (by rw [info_length]; omega)
    rw [info_length] at this
    exact ⟨this, alloc_below _ _⟩
  rcases hh with rfl | rfl | rfl
  · have C1 : Calls Tryd.prog 65 #[.int .i64 1] w fun e w' => e = .returned (.int .i64 32) ∧ w' = w := C
    clear C
    go_enter Tryd.func36, Tryd.ntmps36
    go_wp2_with fail
    refine C1.mono ?_
    rintro e w' ⟨rfl, rfl⟩
    clear C1
    go_wp2
    go_ret
    exact ⟨_, rfl, HO.out⟩
  · have C1 : Calls Tryd.prog 65 #[.int .i64 2] w fun e w' => e = .returned (.int .i64 48) ∧ w' = w := C
    clear C
    go_enter Tryd.func36, Tryd.ntmps36
    go_wp2_with fail
    refine C1.mono ?_
    rintro e w' ⟨rfl, rfl⟩
    clear C1
    go_wp2
    go_ret
    exact ⟨_, rfl, HO.out⟩
  · have C1 : Calls Tryd.prog 65 #[.int .i64 3] w fun e w' => e = .returned (.int .i64 64) ∧ w' = w := C
    clear C
    go_enter Tryd.func36, Tryd.ntmps36
    go_wp2_with fail
    refine C1.mono ?_
    rintro e w' ⟨rfl, rfl⟩
    clear C1
    go_wp2
    go_ret
    exact ⟨_, rfl, HO.out⟩

theorem Rt.below' {w w' : World} (h : Sha.Rt w) (hb : Below w.heap.size w w') : Sha.Rt w' := h.below hb (Nat.le_refl _)

set_option maxRecDepth 100000 in
set_option maxHeartbeats 8000000 in
theorem rencode_any (h : Int) (a : Option Addr) (c : Nat) (m : List UInt8) (size : Int) (w : World) (R : Sha.Rt w) (hr : Rd w a m) (hn : a = none → m.length = 0 ∧ c = 0) (hm : m.length ≤ 100000000) (z1 : -9223372036854775808 ≤ size) (z2 : size ≤ 9223372036854775807) :
    Calls Tryd.prog 15 #[.int .i64 h, .slice a m.length c, .int .i64 size] w fun e w' => ∃ r, e = .returned (.tuple #[r, .int .i64 (ecode h size)]) ∧ OBb w.heap.size w w' r (encV h m size) := by
  by_cases hh : isHB h = true
  case neg =>
    have hh2 : isHB h = false := by simpa using hh
    have he : ecode h size = 111 := by unfold ecode; rw [if_pos hh2]
    have Hv : Hid (encV h m size = []) := by show _ = _; unfold encV; rw [he, if_neg (by decide)]
    rw [he]
    have hx : h < 1 ∨ 3 < h := by
      rcases Int.lt_or_le h 1 with h1 | h1
      · exact .inl h1
      · right
        rcases Int.lt_or_le 3 h with h2 | h2
        · exact h2
        · exact absurd ((isHB_iff h).2 (by unfold Sha.isH; omega)) hh
    clear R hr hn hh hh2 he z1 z2
    by_cases h1 : h < 1
    · have d1 : decide (h < 1) = true := decide_eq_true h1
      clear h1 hx
      go_enter Tryd.func15, Tryd.ntmps15
      go_wp2
      go_ret2
      rw [Hv.out]
      exact ⟨_, rfl, OBb.nil _⟩
    · have d1 : decide (h < 1) = false := decide_eq_false h1
      have d2 : decide (h > 3) = true := decide_eq_true (by omega)
      have d2' : decide (3 < h) = true := decide_eq_true (by omega)
      clear h1 hx
      go_enter Tryd.func15, Tryd.ntmps15
      go_wp2
      go_ret2
      rw [Hv.out]
      exact ⟨_, rfl, OBb.nil _⟩
  have hH := (isHB_iff h).1 hh
  obtain ⟨s, hs⟩ : ∃ s, Sha.siz h = s := ⟨_, rfl⟩
  have hs64 : s ≤ 64 := by rw [← hs]; exact siz_le64 h
  have hs0 : 0 < s := by have := knownB h; rw [hh, hs] at this; exact of_decide_eq_true this
  have d1 : decide (h < 1) = false := decide_eq_false (by rcases hH with e | e | e <;> omega)
  have d2 : decide (h > 3) = false := decide_eq_false (by rcases hH with e | e | e <;> omega)
  have d2' : decide (3 < h) = false := decide_eq_false (by rcases hH with e | e | e <;> omega)
  have CI := rinfo_any h w hH
  have HR : Hid (Sha.Rt w) := R
  have HM : Hid (Rd w a m) := hr
  have HSz : Hid (Sha.siz h = s ∧ isHB h = true ∧ (Sha.sumF h m).length = s) := ⟨hs, hh, by rw [Sha.sumF_length]; exact hs⟩
  clear R hr hH hh hs
  obtain ⟨ec, Hec⟩ : ∃ ec, Hid (ecode h size = ec) := ⟨_, rfl⟩
  obtain ⟨ev, Hevv⟩ : ∃ ev, Hid (encV h m size = ev) := ⟨_, rfl⟩
  rw [Hec.out, Hevv.out]
  go_enter Tryd.func15, Tryd.ntmps15
  go_wp2_with fail
  refine CI.mono ?_
  rintro x w1 ⟨vt, rfl, ht⟩
  clear CI
  have HT : Hid (OBb w.heap.size w w1 vt (info h)) := ht
  have CS := Sha.rsum_any h a c m w1 (Rt.below' HR.out ht.bel) (HM.out.below ht.bel (Nat.le_refl _)) hn hm
  rw [HSz.out.1] at CS
  obtain ⟨at1, ct1, et1⟩ : ∃ a c, vt = .slice a 19 c := by obtain ⟨a, c, e, _⟩ := ht.own.nb; rw [info_length] at e; exact ⟨a, c, e⟩
  subst et1
  clear ht d1 d2 d2'
  go_wp2_with fail
  refine CS.mono ?_
  rintro x w2 ⟨aS, cS, rfl, _, _, hSn, hSr, _, hb2⟩
  clear CS
  have HT2 : Hid (OBb w.heap.size w w2 (.slice at1 19 ct1) (info h)) := ⟨HT.out.own.below hb2 (Nat.le_refl _), HT.out.bel.trans (hb2.mono HT.out.bel.size)⟩
  have HSr : Hid (Rd w2 aS (Sha.sumF h m)) := hSr
  have HSl : Hid ((Sha.sumF h m).length = s) := HSz.out.2.2
  have HSn : Hid (aS = none → s = 0 ∧ cS = 0) := hSn
  have hbw := HT2.out.bel.size
  have hil := info_length h
  have HIL : Hid ((info h).length = 19) := hil
  clear hSr hSn hb2 HT hil
  have HKEY : Hid (∀ v w', Owb w' w.heap.size v (info h ++ Sha.sumF h m) → ∃ g c, v = .slice (some ⟨g, 0, none⟩) (19 + s) c ∧ Rd w' (some ⟨g, 0, none⟩) (info h ++ Sha.sumF h m)) := fun v w' ho => by
    have ob : OBb w.heap.size w' w' v (info h ++ Sha.sumF h m) := ⟨ho, Below.refl _ _⟩
    obtain ⟨g, c, e, _, _, _, hr⟩ := ob.slice (by rw [List.length_append, HIL.out]; omega)
    rw [List.length_append, HIL.out, HSl.out] at e
    exact ⟨g, c, e, hr⟩
  by_cases hsz : size < 30 + (s : Int) ∨ 512 < size
  · have he : ecode h size = 90 := by unfold ecode; rw [HSz.out.1, HSz.out.2.1, if_neg (by simp), if_pos hsz]
    have Hv : Hid (ev = []) := by show _ = _; rw [← Hevv.out]; unfold encV; rw [he, if_neg (by decide)]
    obtain rfl : ec = 90 := by rw [← Hec.out]; exact he
    clear he Hec Hevv
    by_cases h1 : size < 30 + (s : Int)
    · have d3 : decide (size < 19 + (s : Int) + 11) = true := decide_eq_true (by omega)
      have d3' : decide (size < ((19 + s : Nat) : Int) + 11) = true := decide_eq_true (by omega)
      clear hsz h1
      go_wp2_with (at_builtin; refine append_rdb rfl (.tmp 22) (.tmp 23) rfl w.heap.size _ (info h) rfl HT2.out.own aS s cS (Sha.sumF h m) rfl HSl.out HSn.out HSr.out (by rw [HIL.out]; omega) hbw ?_; intro v3 w3 h3 h4; obtain ⟨gt, ct, et, htr⟩ := HKEY.out v3 w3 h3; subst et)
      have HB3 : Hid (Below w.heap.size w w3) := HT2.out.bel.grown h4 hbw (own_block HT2.out.own)
      go_ret2
      rw [Hv.out]
      exact ⟨_, rfl, Owb.nil _ _, HB3.out⟩
    · have d3 : decide (size < 19 + (s : Int) + 11) = false := decide_eq_false (by omega)
      have d3' : decide (size < ((19 + s : Nat) : Int) + 11) = false := decide_eq_false (by omega)
      have d4 : decide (512 < size) = true := decide_eq_true (by omega)
      have d4' : decide (size > 512) = true := decide_eq_true (by omega)
      clear hsz h1
      go_wp2_with (at_builtin; refine append_rdb rfl (.tmp 22) (.tmp 23) rfl w.heap.size _ (info h) rfl HT2.out.own aS s cS (Sha.sumF h m) rfl HSl.out HSn.out HSr.out (by rw [HIL.out]; omega) hbw ?_; intro v3 w3 h3 h4; obtain ⟨gt, ct, et, htr⟩ := HKEY.out v3 w3 h3; subst et)
      have HB3 : Hid (Below w.heap.size w w3) := HT2.out.bel.grown h4 hbw (own_block HT2.out.own)
      go_ret2
      rw [Hv.out]
      exact ⟨_, rfl, Owb.nil _ _, HB3.out⟩
  obtain ⟨z, hz⟩ : ∃ z : Nat, size = ((22 + s + z : Nat) : Int) := ⟨(size - 22 - (s : Int)).toNat, by omega⟩
  obtain ⟨k, hk⟩ : ∃ k, k = 22 + s + z := ⟨_, rfl⟩
  rw [← hk] at hz
  subst hz
  have he : ecode h k = 0 := by unfold ecode; rw [HSz.out.1, HSz.out.2.1, if_neg (by simp), if_neg hsz]
  have hev : encV h m k = emV h m k := by unfold encV; rw [he, if_pos rfl, Int.toNat_natCast]
  obtain rfl : ec = 0 := by rw [← Hec.out]; exact he
  have Hev : Hid (ev = [0, 1] ++ List.replicate z 255 ++ [0] ++ (info h ++ Sha.sumF h m)) := by
    show _ = _
    rw [← Hevv.out, hev]
    unfold emV
    rw [HSz.out.1, show k - 22 - s = z by omega]
    simp
  have d3 : decide ((k : Int) < 19 + (s : Int) + 11) = false := decide_eq_false (by omega)
  have d3' : decide ((k : Int) < ((19 + s : Nat) : Int) + 11) = false := decide_eq_false (by omega)
  have d4 : decide (512 < (k : Int)) = false := decide_eq_false (by omega)
  have d4' : decide ((k : Int) > 512) = false := decide_eq_false (by omega)
  have d4'' : decide (512 < k) = false := decide_eq_false (by omega)
  have hk5 : k ≤ 512 := by omega
  have hzk : z ≤ 512 := by omega
  have iz : (k : Int) - (19 + (s : Int)) = ((z + 3 : Nat) : Int) := by omega
  have Hk : Hid (k = 22 + s + z) := hk
  have iz2 : ((z + 3 : Nat) : Int) - 1 = ((z + 2 : Nat) : Int) := by omega
  clear hk he hev hsz z1 z2 Hec Hevv
  go_wp2_with (at_builtin; refine append_rdb rfl (.tmp 22) (.tmp 23) rfl w.heap.size _ (info h) rfl HT2.out.own aS s cS (Sha.sumF h m) rfl HSl.out HSn.out HSr.out (by rw [HIL.out]; omega) hbw ?_; intro v3 w3 h3 h4; obtain ⟨gt, ct, et, htr⟩ := HKEY.out v3 w3 h3; subst et)
  have HB3 : Hid (Below w.heap.size w w3) := HT2.out.bel.grown h4 hbw (own_block HT2.out.own)
  have HO0 : Hid (OBb w3.heap.size w3 (w3.alloc (.cells #[.int .u8 0, .int .u8 1] 5)) (.slice (some ⟨w3.heap.size, 0, none⟩) 2 2) ([0, 1] ++ List.replicate 0 255)) := ⟨(alloc_bl w3 (([0, 1] : List UInt8).map B) 5).owb (Nat.le_refl _) (by simp), alloc_below _ _⟩
  have HTr : Hid (Rd w3 (some ⟨gt, 0, none⟩) (info h ++ Sha.sumF h m)) := htr
  clear h3 h4 htr HT2 HSr HSn hbw HKEY d3 d3' d4 d4' d4''
  go_loopw [10] (fun s10 wr => ∃ j : Nat, j ≤ z ∧ (∃ a c, s10 = .slice a (2 + j) c) ∧ Hid (OBb w3.heap.size w3 wr s10 ([0, 1] ++ List.replicate j 255))) (fun s10 _ => match s10 with | .slice _ n _ => z + 2 - n | _ => 0)
  case atStart => exact ⟨0, Nat.zero_le _, ⟨_, _, rfl⟩, HO0⟩
  case round =>
    clear HO0
    obtain ⟨j, hj, ⟨a10, c10, e10⟩, HO⟩ := hrel
    subst e10
    have hbs := HO.out.bel.size
    have HL : Hid (([0, 1] ++ List.replicate j (255 : UInt8)).length = 2 + j) := by show _ = _; simp; omega
    by_cases hlt : j < z
    · have d6 : decide (2 + (j : Int) < (z : Int) + 2) = true := decide_eq_true (by omega)
      have d7 : decide (2 + j < z + 2) = true := decide_eq_true (by omega)
      go_wp2_with (at_builtin; refine append_oneb rfl (.tmp 43) (.tmp 44) rfl w3.heap.size _ ([0, 1] ++ List.replicate j 255) 255 rfl HO.out rfl (by rw [HL.out]; omega) (Nat.le_refl _) ?_; intro v7 w7 h7)
      have HO7 : Hid (OBb w3.heap.size w3 w7 v7 ([0, 1] ++ List.replicate (j + 1) 255)) := by rw [List.append_assoc, ← List.replicate_succ'] at h7; exact h7
      obtain ⟨a7, c7, e7⟩ : ∃ a c, v7 = .slice a (2 + (j + 1)) c := by
        obtain ⟨a, c, e, _⟩ := HO7.out.own.nb
        refine ⟨a, c, e.trans ?_⟩
        congr 1
        simp
        omega
      subst e7
      clear h7 HO
      go_wp2
      go_roundw
      case rel => exact ⟨j + 1, by omega, ⟨_, _, rfl⟩, HO7⟩
      case measure => simp; omega
    · obtain rfl : j = z := by omega
      have d6 : decide (2 + (j : Int) < (j : Int) + 2) = false := decide_eq_false (by omega)
      have d7 : decide (2 + j < j + 2) = false := decide_eq_false (by omega)
      have HLt : Hid ((info h ++ Sha.sumF h m).length = 19 + s) := by show _ = _; rw [List.length_append, HIL.out, HSl.out]
      have HL2 : Hid (([0, 1] ++ List.replicate j (255 : UInt8) ++ [0]).length + (19 + s) ≤ 10000000000) := by show _ ≤ _; rw [List.length_append, HL.out]; simp; omega
      go_wp2_with (at_builtin; first | (refine append_oneb rfl (.tmp 46) (.tmp 47) rfl w3.heap.size _ ([0, 1] ++ List.replicate j 255) 0 rfl HO.out rfl (by rw [HL.out]; omega) (Nat.le_refl _) ?_; intro v7 w7 h7) | (refine append_rdb rfl (.tmp 49) (.tmp 50) rfl w3.heap.size _ ([0, 1] ++ List.replicate j 255 ++ [0]) rfl h7.own (some ⟨gt, 0, none⟩) (19 + s) ct (info h ++ Sha.sumF h m) rfl HLt.out (fun e => by cases e) (HTr.out.below h7.bel (Nat.le_refl _)) HL2.out h7.bel.size ?_; intro v8 w8 h8 h9))
      have HZ : Hid (OBb w.heap.size w w8 v8 ev) := by
        rw [Hev.out]
        have hb8 : Below w3.heap.size w3 w8 := h7.bel.grown h9 h7.bel.size (own_block h7.own)
        exact ⟨Owb.base h8 HB3.out.size, HB3.out.trans (hb8.mono HB3.out.size)⟩
      clear h7 h8 h9
      go_ret2
      exact ⟨_, rfl, HZ.out⟩

end Go.Proofs.YtefpjjonmoofpaaDoor
