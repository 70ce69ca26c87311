import Derived.Test.YtefpjjonmoofpaaDoorRep
import Derived.Test.YtefpjjonmoofpaaDoorConc
import Derived.Lib.ConvBytes
namespace Go.Proofs.YtefpjjonmoofpaaDoor
open Go.RowKit

/-- What stands ahead of the sum in a DigestInfo. -/
def info (h : Int) : List UInt8 :=
  if h = 1 then [48, 49, 48, 13, 6, 9, 96, 134, 72, 1, 101, 3, 4, 2, 1, 5, 0, 4, 32]
  else if h = 2 then [48, 65, 48, 13, 6, 9, 96, 134, 72, 1, 101, 3, 4, 2, 2, 5, 0, 4, 48]
  else [48, 81, 48, 13, 6, 9, 96, 134, 72, 1, 101, 3, 4, 2, 3, 5, 0, 4, 64]
theorem info_length (h : Int) : (info h).length = 19 := by unfold info; split; rfl; split <;> rfl
/-- The program's three strings stand in the world. -/
structure Inf (w : World) : Prop where
  c : ∀ i : Nat, 1 ≤ i → i ≤ 3 → w.cell? ⟨0, i, none⟩ = some (.string ⟨(info i).toArray⟩)
theorem Inf.below {w w' : World} (h : Inf w) (hb : Below w.heap.size w w') : Inf w' := ⟨fun i h1 h2 => cell_but (h.c i h1 h2) fun hg => hb.block _ hg⟩
theorem Inf.drewN {w : World} (h : Inf w) (q : Nat) : Inf (w.drewN q) := ⟨h.c⟩

/-- The encoding. -/
def emV (h : Int) (m : List UInt8) (size : Nat) : List UInt8 := [0, 1] ++ List.replicate (size - 22 - Sha.siz h) 255 ++ [0] ++ info h ++ Sha.sumF h m
/-- Is it a hash? -/
def isHB (h : Int) : Bool := decide (h = 1 ∨ h = 2 ∨ h = 3)
theorem isHB_iff (h : Int) : isHB h = true ↔ Sha.isH h := by unfold isHB Sha.isH; exact decide_eq_true_iff
/-- The error. -/
def ecode (h size : Int) : Int := if isHB h = false then 111 else if size < 30 + Sha.siz h ∨ 512 < size then 90 else 0
def encV (h : Int) (m : List UInt8) (size : Int) : List UInt8 := if ecode h size = 0 then emV h m size.toNat else []

theorem knownB (h : Int) : decide (0 < Sha.siz h) = isHB h := by
  apply decide_eq_decide.2
  unfold Sha.siz
  split
  · simp_all
  · split
    · simp_all
    · split <;> simp_all

theorem known_any (h : Int) (w : World) : Calls Tryd.prog 29 #[.int .i64 h] w fun e w' => e = .returned (.bool (isHB h)) ∧ w' = w := by
  have C := Sha.size_any h w
  have hk := knownB h
  generalize isHB h = b at *
  generalize Sha.siz h = s at *
  go_enter Tryd.func29, Tryd.ntmps29
  go_wp2_with fail
  refine C.mono ?_
  rintro e w' ⟨rfl, rfl⟩
  clear C
  go_wp2
  go_ret
  exact ⟨rfl, rfl⟩

theorem rd_lit {w : World} (l : List UInt8) : Rd (w.alloc (.cells (l.map B).toArray 5)) (some ⟨w.heap.size, 0, none⟩) l := (alloc_bl w (l.map B) 5).rdb
theorem bytesWorld_below (w : World) (s : ByteArray) : Below w.heap.size w (Lib.bytesWorld w 5 s) :=
  ⟨rfl, rfl, rfl, by rw [Lib.bytesWorld_size]; omega, fun k hk => Lib.bytesWorld_at_old w _ s k hk⟩
theorem bytesWorld_rd (w : World) (l : List UInt8) : Rd (Lib.bytesWorld w 5 ⟨l.toArray⟩) (some ⟨w.heap.size, 0, none⟩) l := by
  refine .inr ⟨_, 0, rfl, by rw [Lib.bytesWorld_size]; omega, fun j hj => ?_⟩
  rw [Nat.zero_add, Lib.bytesWorld_cell w 5 ⟨l.toArray⟩ j hj]
  rfl

theorem parts_five (w : World) (p1 p2 p3 p4 p5 : Sha.Prt) (h1 : Sha.prOk w p1) (h2 : Sha.prOk w p2) (h3 : Sha.prOk w p3) (h4 : Sha.prOk w p4) (h5 : Sha.prOk w p5) :
    Sha.Pts (w.alloc (.cells #[Sha.prV p1, Sha.prV p2, Sha.prV p3, Sha.prV p4, Sha.prV p5] 23)) (some ⟨w.heap.size, 0, none⟩) [p1, p2, p3, p4, p5] := by
  have hb := alloc_below w (.cells #[Sha.prV p1, Sha.prV p2, Sha.prV p3, Sha.prV p4, Sha.prV p5] 23)
  have hk : ∀ p, Sha.prOk w p → Sha.prOk (w.alloc (.cells #[Sha.prV p1, Sha.prV p2, Sha.prV p3, Sha.prV p4, Sha.prV p5] 23)) p := fun p h => ⟨Sha.Rd.below h.1 hb (Nat.le_refl _), h.2⟩
  refine ⟨.inr ⟨w.heap.size, 0, rfl, fun j hj => ?_⟩, ?_⟩
  · have hbl := alloc_bl w [Sha.prV p1, Sha.prV p2, Sha.prV p3, Sha.prV p4, Sha.prV p5] 23
    have := hbl.cell j (by simpa using hj)
    rw [Nat.zero_add]
    refine this.trans ?_
    have e : [Sha.prV p1, Sha.prV p2, Sha.prV p3, Sha.prV p4, Sha.prV p5] = [p1, p2, p3, p4, p5].map Sha.prV := rfl
    simp only [e, List.getElem_map]
  · intro p hp
    simp only [List.mem_cons, List.not_mem_nil, or_false] at hp
    rcases hp with rfl | rfl | rfl | rfl | rfl <;> (apply hk; assumption)
theorem parts_one (w : World) (p : Sha.Prt) (h : Sha.prOk w p) : Sha.Pts (w.alloc (.cells #[Sha.prV p] 23)) (some ⟨w.heap.size, 0, none⟩) [p] := by
  refine ⟨.inr ⟨w.heap.size, 0, rfl, fun j hj => ?_⟩, ?_⟩
  · have hbl := alloc_bl w [Sha.prV p] 23
    have := hbl.cell j (by simpa using hj)
    rw [Nat.zero_add]
    refine this.trans ?_
    have e : [Sha.prV p] = [p].map Sha.prV := rfl
    simp only [e, List.getElem_map]
  · intro p' hp
    simp only [List.mem_singleton] at hp
    subst hp
    exact ⟨Sha.Rd.below h.1 (alloc_below w _) (Nat.le_refl _), h.2⟩

set_option maxRecDepth 100000 in
set_option maxHeartbeats 4000000 in
theorem encode_any (h : Int) (a : Option Addr) (c : Nat) (m : List UInt8) (size : Int) (w : World) (T : Sha.Tb w) (I : Inf w) (hr : Rd w a m) (hc : m.length ≤ c) (hc2 : c ≤ 9223372036854775807) (hm : m.length ≤ 100000000) :
    Calls Tryd.prog 10 #[.int .i64 h, .slice a m.length c, .int .i64 size] w fun e w' => ∃ r, e = .returned (.tuple #[r, .int .i64 (ecode h size)]) ∧ OBb w.heap.size w w' r (encV h m size) := by
  have CK := known_any h w
  by_cases hh : isHB h = true
  · have hH := (isHB_iff h).1 hh
    rw [hh] at CK
    have CS := Sha.size_any h w
    have hs64 : Sha.siz h ≤ 64 := by unfold Sha.siz; (repeat' split) <;> omega
    have hs0 : 0 < Sha.siz h := by have := knownB h; rw [hh] at this; exact of_decide_eq_true this
    obtain ⟨i, rfl, hi1, hi3⟩ : ∃ i : Nat, h = (i : Int) ∧ 1 ≤ i ∧ i ≤ 3 := by rcases hH with e | e | e <;> subst e; exact ⟨1, rfl, by omega, by omega⟩; exact ⟨2, rfl, by omega, by omega⟩; exact ⟨3, rfl, by omega, by omega⟩
    have gi := I.c i hi1 hi3
    have hil := info_length i
    by_cases hsz : size < 30 + (Sha.siz i : Int) ∨ 512 < size
    · have he : ecode i size = 90 := by unfold ecode; rw [hh, if_neg (by simp), if_pos hsz]
      have Hv : Hid (encV i m size = []) := by show _ = _; unfold encV; rw [he, if_neg (by decide)]
      rw [he]
      generalize Sha.siz i = s at *
      clear T I hr hH hh he
      by_cases h1 : size < 30 + (s : Int)
      · have d1 : decide (size < 22 + (s : Int) + 8) = true := decide_eq_true (by omega)
        clear hsz h1
        go_enter Tryd.func10, Tryd.ntmps10
        go_wp2_with fail
        refine CK.mono ?_
        rintro e w' ⟨rfl, rfl⟩
        clear CK
        go_wp2_with fail
        refine CS.mono ?_
        rintro e w' ⟨rfl, rfl⟩
        clear CS
        go_wp2
        go_ret2
        rw [Hv.out]
        exact ⟨_, rfl, OBb.nil _⟩
      · have d1 : decide (size < 22 + (s : Int) + 8) = false := decide_eq_false (by omega)
        have d2 : decide (512 < size) = true := decide_eq_true (by omega)
        have d2' : decide (size > 512) = true := decide_eq_true (by omega)
        clear hsz h1
        go_enter Tryd.func10, Tryd.ntmps10
        go_wp2_with fail
        refine CK.mono ?_
        rintro e w' ⟨rfl, rfl⟩
        clear CK
        go_wp2_with fail
        refine CS.mono ?_
        rintro e w' ⟨rfl, rfl⟩
        clear CS
        go_wp2
        go_ret2
        rw [Hv.out]
        exact ⟨_, rfl, OBb.nil _⟩
    · have he : ecode i size = 0 := by unfold ecode; rw [hh, if_neg (by simp), if_neg hsz]
      obtain ⟨z, hz⟩ : ∃ z : Nat, size = 22 + (Sha.siz i : Int) + (z : Int) := ⟨(size - 22 - (Sha.siz i : Int)).toNat, by omega⟩
      have hz1 : 8 ≤ z := by omega
      have hz2 : z ≤ 500 := by omega
      have Hv : Hid (encV i m size = [0, 1] ++ List.replicate z 255 ++ [0] ++ info i ++ Sha.sumF i m) := by
        show _ = _
        unfold encV emV
        rw [he, if_pos rfl]
        congr 4
        congr 1
        omega
      rw [he]
      have d1 : decide (size < 22 + (Sha.siz i : Int) + 8) = false := decide_eq_false (by omega)
      have d2 : decide (512 < size) = false := decide_eq_false (by omega)
      have d2' : decide (size > 512) = false := decide_eq_false (by omega)
      have ez : size - (22 + (Sha.siz i : Int)) = (z : Int) := by omega
      have HT : Hid (Sha.Tb w) := T
      have HR : Hid (Rd w a m) := hr
      have HH : Hid (Sha.isH i) := hH
      have HS : Hid (∀ x, (Sha.sumF (i : Int) x).length = Sha.siz i) := fun x => Sha.sumF_length i x
      clear T I hr hH hh he hsz hz
      -- the filling
      have g1 : (w.alloc (.cells #[.int .u8 255] 5)).cell? ⟨w.heap.size, 0, none⟩ = some (B 255) := (alloc_bl w (([255] : List UInt8).map B) 5).cell 0 (by simp)
      have hbA := alloc_below w (.cells #[.int .u8 255] 5)
      have CR := repeat_any w.heap.size 255 z (w.alloc (.cells #[.int .u8 255] 5)) g1 (by omega) (by omega)
      go_enter Tryd.func10, Tryd.ntmps10
      go_wp2_with fail
      refine CK.mono ?_
      rintro e w' ⟨rfl, rfl⟩
      clear CK
      go_wp2_with fail
      refine CS.mono ?_
      rintro e w' ⟨rfl, rfl⟩
      clear CS
      go_wp2_with fail
      refine CR.mono ?_
      rintro e w1 ⟨rfl, hR1, hb1⟩
      clear CR g1
      have hsA : w'.heap.size < (w'.alloc (.cells #[.int .u8 255] 5)).heap.size := by rw [World.size_alloc]; omega
      have HB1 : Below w'.heap.size w' w1 := hbA.trans (hb1.mono hbA.size)
      generalize (w'.alloc (.cells #[.int .u8 255] 5)).heap.size = gR at *
      -- the small lists
      have kc : ∀ W : World, (convert 9 23 (.string ⟨(info (i : Int)).toArray⟩)).run Tryd.prog W = .ok (.slice (some ⟨W.heap.size, 0, none⟩) 19 (grownCap W 19 0 5)) (Lib.bytesWorld W 5 ⟨(info (i : Int)).toArray⟩) := fun W => by
        have := Lib.run_convert_string_bytes (P := Tryd.prog) W 9 23 5 ⟨(info (i : Int)).toArray⟩ Tryd.underlying9 Tryd.underlying23 Tryd.underlying5
        rw [show (ByteArray.mk (info (i : Int)).toArray).size = 19 from hil] at this
        exact this
      obtain ⟨W2, e2⟩ : ∃ W, W = w1.alloc (.cells #[.int .u8 0, .int .u8 1] 5) := ⟨_, rfl⟩
      obtain ⟨W3, e3⟩ : ∃ W, W = W2.alloc (.cells #[.int .u8 0] 5) := ⟨_, rfl⟩
      obtain ⟨W4, e4⟩ : ∃ W, W = Lib.bytesWorld W3 5 ⟨(info (i : Int)).toArray⟩ := ⟨_, rfl⟩
      have s2 : W2.heap.size = w1.heap.size + 1 := by rw [e2, World.size_alloc]
      have s3 : W3.heap.size = w1.heap.size + 1 + 1 := by rw [e3, World.size_alloc, s2]
      have s4 : W4.heap.size = w1.heap.size + 1 + 1 + 1 := by rw [e4, Lib.bytesWorld_size, s3]
      have b2 : Below w1.heap.size w1 W2 := by rw [e2]; exact alloc_below _ _
      have b3 : Below W2.heap.size W2 W3 := by rw [e3]; exact alloc_below _ _
      have b4 : Below W3.heap.size W3 W4 := by rw [e4]; exact bytesWorld_below _ _
      have r2 : Rd W2 (some ⟨w1.heap.size, 0, none⟩) [0, 1] := by rw [e2]; exact rd_lit (w := w1) [0, 1]
      have r3 : Rd W3 (some ⟨w1.heap.size + 1, 0, none⟩) [0] := by rw [e3, ← s2]; exact rd_lit (w := W2) [0]
      have r4 : Rd W4 (some ⟨w1.heap.size + 1 + 1, 0, none⟩) (info i) := by rw [e4, ← s3]; exact bytesWorld_rd W3 (info i)
      have hb14 : Below w1.heap.size w1 W4 := b2.trans ((b3.trans (b4.mono b3.size)).mono b2.size)
      have r2' := (r2.below b3 (Nat.le_refl _)).below b4 (Nat.le_refl _)
      have r3' := r3.below b4 (Nat.le_refl _)
      have hR4 := hR1.below hb14 (Nat.le_refl _)
      have HB4 : Below w'.heap.size w' W4 := HB1.trans (hb14.mono HB1.size)
      have hRm : Rd W4 a m := HR.out.below HB4 (Nat.le_refl _)
      have HT4 : Sha.Tb W4 := HT.out.below HB4
      have cap4 : 19 ≤ grownCap W3 19 0 5 := by have := grownCap_ge W3 19 0 5; simpa using this
      have cap4' : grownCap W3 19 0 5 ≤ maxLen := grownCap_le_maxLen W3 19 0 _ (by unfold maxLen; omega)
      unfold maxLen at cap4'
      obtain ⟨cp, ecp⟩ : ∃ cp, grownCap W3 19 0 5 = cp := ⟨_, rfl⟩
      rw [ecp] at cap4 cap4'
      have b5 := alloc_below W4 (.cells #[.slice a m.length c] 23)
      have CQ := Sha.ssum_any i (some ⟨W4.heap.size, 0, none⟩) 1 [⟨a, c, m⟩] (W4.alloc (.cells #[.slice a m.length c] 23)) (HT4.below b5) (parts_one W4 ⟨a, c, m⟩ ⟨hRm, hc, hc2⟩) (by simp) (by simp [Sha.cat]; omega)
      rw [show Sha.cat [⟨a, c, m⟩] = m by simp [Sha.cat]] at CQ
      have H2 : Hid (W2 = w1.alloc (.cells #[.int .u8 0, .int .u8 1] 5)) := e2
      have H3 : Hid (W3 = W2.alloc (.cells #[.int .u8 0] 5)) := e3
      have H4 : Hid (W4 = Lib.bytesWorld W3 5 ⟨(info (i : Int)).toArray⟩) := e4
      have H5 : Hid (grownCap W3 19 0 5 = cp) := ecp
      have HF : Hid (Rd W4 (some ⟨w1.heap.size, 0, none⟩) [0, 1] ∧ Rd W4 (some ⟨w1.heap.size + 1, 0, none⟩) [0] ∧ Rd W4 (some ⟨w1.heap.size + 1 + 1, 0, none⟩) (info i) ∧ Rd W4 (some ⟨gR, 0, none⟩) (List.replicate z 255) ∧ Below w'.heap.size w' W4) := ⟨r2', r3', r4, hR4, HB4⟩
      have Hc : Hid (cp ≤ 9223372036854775807 ∧ 19 ≤ cp) := ⟨by omega, cap4⟩
      clear e2 e3 e4 ecp r2 r3 r4 r2' r3' hR4 HB4 b2 b3 b4 hb14 s2 s3 s4 hRm HT4 cap4 cap4' hR1 hb1 HB1 hbA b5 HR
      go_wp2_with fail
      rw [← H2.out, ← H3.out, ← H4.out, H5.out]
      refine CQ.mono ?_
      rintro e w6 ⟨aS, rfl, hOS, hb6⟩
      clear CQ
      have b5 := alloc_below W4 (.cells #[.slice a m.length c] 23)
      have b46 : Below W4.heap.size W4 w6 := b5.trans (hb6.mono b5.size)
      obtain ⟨q2, q3, q4, qR, HB4⟩ := HF.out
      have P1 : Sha.prOk w6 ⟨some ⟨w1.heap.size, 0, none⟩, 2, [0, 1]⟩ := ⟨q2.below b46 (Nat.le_refl _), by simp, by simp⟩
      have P2 : Sha.prOk w6 ⟨some ⟨gR, 0, none⟩, z, List.replicate z 255⟩ := ⟨qR.below b46 (Nat.le_refl _), by simp, by show z ≤ _; omega⟩
      have P3 : Sha.prOk w6 ⟨some ⟨w1.heap.size + 1, 0, none⟩, 1, [0]⟩ := ⟨q3.below b46 (Nat.le_refl _), by simp, by simp⟩
      have P4 : Sha.prOk w6 ⟨some ⟨w1.heap.size + 1 + 1, 0, none⟩, cp, info i⟩ := ⟨q4.below b46 (Nat.le_refl _), by show (info i).length ≤ cp; rw [hil]; exact Hc.out.2, Hc.out.1⟩
      have P5 : Sha.prOk w6 ⟨aS, Sha.siz i, Sha.sumF i m⟩ := ⟨Sha.Own.rd hOS, by show (Sha.sumF i m).length ≤ _; rw [HS.out]; exact Nat.le_refl _, by show Sha.siz i ≤ _; omega⟩
      have hPt := parts_five w6 _ _ _ _ _ P1 P2 P3 P4 P5
      have hN5 : aS = none → Sha.siz i = 0 := fun e => by
        rcases hOS with ⟨_, h0⟩ | ⟨g, e1, _⟩
        · have := HS.out m; rw [h0] at this; simpa using this.symm
        · rw [e] at e1; cases e1
      have CC := concat_any w6.heap.size 0 5 _ _ hPt (fun p hp => by
        simp only [List.mem_cons, List.not_mem_nil, or_false] at hp
        rcases hp with rfl | rfl | rfl | rfl | rfl <;> (intro e; first | (cases e; done) | exact hN5 e)) (by simp) (by simp [Sha.cat, hil, HS.out]; omega) (by simp)
      have b7 := alloc_below w6 (.cells #[Sha.prV ⟨some ⟨w1.heap.size, 0, none⟩, 2, [0, 1]⟩, Sha.prV ⟨some ⟨gR, 0, none⟩, z, List.replicate z 255⟩, Sha.prV ⟨some ⟨w1.heap.size + 1, 0, none⟩, 1, [0]⟩, Sha.prV ⟨some ⟨w1.heap.size + 1 + 1, 0, none⟩, cp, info i⟩, Sha.prV ⟨aS, Sha.siz i, Sha.sumF i m⟩] 23)
      have HB7 : Hid (Below w'.heap.size w' (w6.alloc (.cells #[Sha.prV ⟨some ⟨w1.heap.size, 0, none⟩, 2, [0, 1]⟩, Sha.prV ⟨some ⟨gR, 0, none⟩, z, List.replicate z 255⟩, Sha.prV ⟨some ⟨w1.heap.size + 1, 0, none⟩, 1, [0]⟩, Sha.prV ⟨some ⟨w1.heap.size + 1 + 1, 0, none⟩, cp, info i⟩, Sha.prV ⟨aS, Sha.siz i, Sha.sumF i m⟩] 23))) := by
        have h46 := HB4.trans (b46.mono HB4.size)
        exact h46.trans (b7.mono h46.size)
      clear hPt hN5 P1 P2 P3 P4 P5 q2 q3 q4 qR HB4 b46 b5 hb6 hOS b7 HF
      unfold Sha.prV at CC HB7
      simp only [List.length_replicate, hil, HS.out, List.length_cons, List.length_nil] at CC HB7
      go_wp2_with fail
      refine CC.mono ?_
      rintro e w8 ⟨v, rfl, ho⟩
      clear CC
      have HO : Hid (OBb w'.heap.size w' w8 v (encV i m size)) := by
        refine ⟨?_, HB7.out.trans (ho.bel.mono HB7.out.size)⟩
        have := ho.own.base HB7.out.size
        rw [Hv.out]
        simpa [Sha.cat] using this
      clear ho HB7
      go_wp2
      go_ret2
      exact ⟨_, rfl, HO.out⟩
  · have he : ecode h size = 111 := by unfold ecode; rw [if_pos (by simpa using hh)]
    have Hv : Hid (encV h m size = []) := by show _ = _; unfold encV; rw [he, if_neg (by decide)]
    rw [he]
    have hh2 : isHB h = false := by simpa using hh
    rw [hh2] at CK
    clear T I hr hh hh2 he
    go_enter Tryd.func10, Tryd.ntmps10
    go_wp2_with fail
    refine CK.mono ?_
    rintro e w' ⟨rfl, rfl⟩
    clear CK
    go_wp2
    go_ret2
    rw [Hv.out]
    exact ⟨_, rfl, OBb.nil _⟩

end Go.Proofs.YtefpjjonmoofpaaDoor
