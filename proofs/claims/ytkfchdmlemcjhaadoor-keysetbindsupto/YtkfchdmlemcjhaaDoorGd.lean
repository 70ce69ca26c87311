import Derived.Test.YtkfchdmlemcjhaaDoorGc
import Derived.Test.YtkfchdmlemcjhaaDoorDlZ
import Derived.Deep.CutRange
namespace Go.Proofs.YtkfchdmlemcjhaaDoor
open Go.RowKit Go.Shelf

/-- What take answers. -/
def tkI : Option Nat → Int
  | some j => (j : Int)
  | none => -1
/-- Texts of a bounded length. -/
def TS (l : List Nd) : Prop := ∀ i, i < l.length → (l.getD i (nd0 0)).text.length ≤ 1000000000 ∧ (l.getD i (nd0 0)).key.length ≤ 1000000000
/-- The contract of take at a depth. -/
def TkC (n : Nat) (d : Int) : Prop := ∀ (l : List Nd) (ao : Option Addr) (cap i : Nat) (ob : Bool) (w : World), NR w (.slice ao l.length cap) l ao cap → l.length ≤ 100000000 → TS l → i ≤ l.length →
  Calls Tryd.prog 15 #[.slice ao l.length cap, .int .i64 (i : Int), .bool ob, .int .i64 d] w fun e w' => e = .returned (.int .i64 (tkI (tkF l n i ob d))) ∧ Below w.heap.size w w'

theorem tl_step {v : List Nd} {tk : Nat → Option Nat} {ob : Bool} {f : Nat} {n : Int} {i : Nat} {ns : List (List UInt8)} (hn : 0 < n) : tlF v tk ob (f + 1) n i ns = match tk i with
      | none => none
      | some j => if ob = true ∧ (v.getD i (nd0 0)).key ∈ ns then none else tlF v tk ob f (n - 1) j (ns ++ [(v.getD i (nd0 0)).key]) := by
  conv => lhs; unfold tlF
  rw [if_pos hn]
  cases tk i <;> rfl
theorem tl_stop {v : List Nd} {tk : Nat → Option Nat} {ob : Bool} {f : Nat} {n : Int} {i : Nat} {ns : List (List UInt8)} (hn : ¬ 0 < n) : tlF v tk ob f n i ns = some i := by
  cases f <;> (unfold tlF; rw [if_neg hn])

set_option maxRecDepth 100000 in
set_option maxHeartbeats 16000000 in
theorem rtake_step (n : Nat) (d : Int) (hd0 : 0 ≤ d) (hd : d + n = 32) (ih : d < 32 → TkC n (d + 1)) : TkC (n + 1) d := by
  intro l ao cap i ob w h hl hT hi
  obtain ⟨_, hcap, _⟩ := id h
  by_cases hlt : i < l.length
  · obtain ⟨g, off, rfl, hcell⟩ := h.at hlt
    obtain ⟨nd, hnd⟩ : ∃ x, l.getD i (nd0 0) = x := ⟨_, rfl⟩
    have hTx := hT i hlt
    rw [hnd] at hcell hTx
    have HF : Hid (tkF l (n + 1) i ob d = if i < l.length ∧ wmF nd d = true ∧ Lib.validD nd.key = true ∧ (ob = true ∨ nd.key = []) then tlF l (fun j => tkF l n j (decide (nd.kind = 7)) (d + 1)) (decide (nd.kind = 7)) (l.length + 1) nd.kids (i + 1) [] else none) := by
      show _ = _
      conv => lhs; unfold tkF
      rw [hnd]
    have hwp := wm_pl nd d (by omega)
    obtain ⟨K, Y, T, b, z, c⟩ := nd
    simp only at HF hTx hwp
    have p0 : w.rangeAt g (off + i * 6) [.int .i64 K, .string ⟨Y.toArray⟩, .string ⟨T.toArray⟩, .bool b, .int .i64 z, .int .i64 c] := fun j u hu => by
      obtain ⟨hj, _⟩ := List.getElem?_eq_some_iff.1 hu
      exact hcell j u hj hu
    have HNq : Hid (∀ wx, Below w.heap.size w wx → NR wx (.slice (some ⟨g, off, none⟩) l.length cap) l (some ⟨g, off, none⟩) cap) := fun wx hx => h.below hx (Nat.le_refl _)
    obtain ⟨w0, hw0⟩ : ∃ w0 : World, w.alloc (.cells #[.int .i64 K, .string ⟨Y.toArray⟩, .string ⟨T.toArray⟩, .bool b, .int .i64 z, .int .i64 c] 36) = w0 := ⟨_, rfl⟩
    have HB0 : Hid (Below w.heap.size w w0) := by rw [← hw0]; exact alloc_below _ _
    have HBl : Hid (Bl 36 w0 w.heap.size (nC ⟨K, Y, T, b, z, c⟩)) := by rw [← hw0]; exact alloc_bl _ _ _
    have HW0 : Hid (w.alloc (.cells #[.int .i64 K, .string ⟨Y.toArray⟩, .string ⟨T.toArray⟩, .bool b, .int .i64 z, .int .i64 c] 36) = w0) := hw0
    have p1 : w0.rangeAt w.heap.size 0 [.int .i64 K, .string ⟨Y.toArray⟩, .string ⟨T.toArray⟩, .bool b, .int .i64 z, .int .i64 c] := fun j u hu => by
      obtain ⟨hj, e⟩ := List.getElem?_eq_some_iff.1 hu
      rw [Nat.zero_add, ← e]
      exact HBl.out.cell j hj
    have C1 := rplain_any K Y T b z c w0 hTx.1
    have HC2 : Hid (∀ wq, Calls Tryd.prog 23 #[.string ⟨Y.toArray⟩] wq fun e w' => e = .returned (.bool (Lib.validD Y)) ∧ Below wq.heap.size wq w') := fun wq => rutf_any Y wq hTx.2
    have HT : Hid (TS l) := hT
    have HIH : Hid (d < 32 → TkC n (d + 1)) := ih
    have hch : (Tryd.prog.info? 36).map (·.size) = some ([.int .i64 K, .string ⟨Y.toArray⟩, .string ⟨T.toArray⟩, .bool b, .int .i64 z, .int .i64 c] : List Value).length := by kernel_rfl
    have q0 : decide ((i : Int) ≥ (l.length : Int)) = false := decide_eq_false (by omega)
    have q1 : decide (l.length ≤ i) = false := decide_eq_false (by omega)
    obtain ⟨X, hX⟩ : ∃ X, tkF l (n + 1) i ob d = X := ⟨_, rfl⟩
    rw [hX] at HF ⊢
    have HWP : Hid (wmF ⟨K, Y, T, b, z, c⟩ d = (plF ⟨K, Y, T, b, z, c⟩ && !(decide (6 ≤ K) && decide (d = 32)))) := hwp
    have HK : Hid (wmF ⟨K, Y, T, b, z, c⟩ d = true → 0 < c → d < 32) := fun hw hc => (wm_kids2 hw).2.2 hc
    generalize plF ⟨K, Y, T, b, z, c⟩ = P at *
    obtain ⟨V, hV⟩ : ∃ V, Lib.validD Y = V := ⟨_, rfl⟩
    rw [hV] at HF HC2
    clear hV hwp hcell hnd hT ih hw0 hX h hTx
    go_enter Tryd.func15, Tryd.ntmps15
    go_wp2_with (first | (refine wpList_load_mid rfl 36 (.tmp 22) rfl g (off + i * 6) rfl [.int .i64 K, .string ⟨Y.toArray⟩, .string ⟨T.toArray⟩, .bool b, .int .i64 z, .int .i64 c] _ p0 Tryd.underlying36 rfl hch ?_) | (rw [HW0.out]; refine wpList_load_mid rfl 36 (.tmp 9) rfl w.heap.size 0 rfl [.int .i64 K, .string ⟨Y.toArray⟩, .string ⟨T.toArray⟩, .bool b, .int .i64 z, .int .i64 c] _ p1 Tryd.underlying36 rfl hch ?_) | fail)
    refine C1.mono ?_
    clear C1 p0 p1
    rintro e w1 ⟨rfl, hB1⟩
    have HBl1 : Hid (Bl 36 w1 w.heap.size (nC ⟨K, Y, T, b, z, c⟩)) := HBl.out.below hB1 HBl.out.lt
    have HB1 : Hid (Below w.heap.size w w1) := HB0.out.trans (hB1.mono HB0.out.size)
    have cy : w1.cell? ⟨w.heap.size, 1, none⟩ = some (.string ⟨Y.toArray⟩) := HBl1.out.cell 1 (by simp [nC])
    have C2 := HC2.out w1
    clear hB1 HBl HB0 HC2 HW0
    go_wp2_with fail
    refine C2.mono ?_
    clear C2 cy
    rintro e w2 ⟨rfl, hB2⟩
    have HBl2 : Hid (Bl 36 w2 w.heap.size (nC ⟨K, Y, T, b, z, c⟩)) := HBl1.out.below hB2 HBl1.out.lt
    have HB2 : Hid (Below w.heap.size w w2) := HB1.out.trans (hB2.mono HB1.out.size)
    have ck : w2.cell? ⟨w.heap.size, 0, none⟩ = some (.int .i64 K) := HBl2.out.cell 0 (by simp [nC])
    have cy : w2.cell? ⟨w.heap.size, 1, none⟩ = some (.string ⟨Y.toArray⟩) := HBl2.out.cell 1 (by simp [nC])
    clear hB2 HBl1 HB1
    obtain ⟨bd, hbd⟩ : ∃ bd, (!P || !V || (!ob && !decide (Y = [])) || (decide (6 ≤ K) && decide (d = 32))) = bd := ⟨_, rfl⟩
    have HBD : Hid ((!P || !V || (!ob && !decide (Y = [])) || (decide (6 ≤ K) && decide (d = 32))) = bd) := hbd
    clear hbd
    go_upto_region 6 with fail
    go_cut [52] from 29 to 52 (fun s wx => s = .bool bd ∧ wx = w2)
    case first =>
      cases P
      · have HX : Hid (bd = true) := HBD.out.symm
        clear HBD
        go_wp2
        go_meet
        exact ⟨by rw [HX.out], rfl⟩
      · cases V
        · have HX : Hid (bd = true) := HBD.out.symm
          clear HBD
          go_wp2
          go_meet
          exact ⟨by rw [HX.out], rfl⟩
        · have HQ : Hid ((decide (6 ≤ K) && decide (d = 32)) = bd ∨ bd = true) := by
            show _ ∨ _
            have := HBD.out
            cases hh : (!ob && !decide (Y = []))
            · rw [hh] at this; exact .inl this
            · rw [hh] at this; exact .inr this.symm
          have HK2 : Hid ((decide (K ≥ 6) = true ∧ (d == 32) = true ∧ (decide (6 ≤ K) && decide (d = 32)) = true) ∨ (decide (K ≥ 6) = true ∧ (d == 32) = false ∧ (decide (6 ≤ K) && decide (d = 32)) = false) ∨ (decide (K ≥ 6) = false ∧ (decide (6 ≤ K) && decide (d = 32)) = false)) := by
            show _ ∨ _
            by_cases h6 : 6 ≤ K
            · by_cases h3 : d = 32
              · exact .inl ⟨decide_eq_true h6, by simpa using h3, by rw [decide_eq_true h6, decide_eq_true h3]; rfl⟩
              · exact .inr (.inl ⟨decide_eq_true h6, by simpa using h3, by rw [decide_eq_false h3, Bool.and_false]⟩)
            · exact .inr (.inr ⟨decide_eq_false h6, by rw [decide_eq_false h6]; rfl⟩)
          cases ob
          · by_cases hY : Y = []
            · have HE : Hid ((decide (6 ≤ K) && decide (d = 32)) = bd) := by
                have := HBD.out
                rw [decide_eq_true hY] at this
                exact this
              subst hY
              clear HBD HQ
              rcases HK2.out with ⟨r1, r2, r3⟩ | ⟨r1, r2, r3⟩ | ⟨r1, r3⟩
              · have HX : Hid (bd = true) := by show _ = _; rw [← HE.out]; exact r3
                clear HE HK2 r3
                go_wp2
                go_meet
                exact ⟨by rw [HX.out], rfl⟩
              · have HX : Hid (bd = false) := by show _ = _; rw [← HE.out]; exact r3
                clear HE HK2 r3
                go_wp2
                go_meet
                exact ⟨by rw [HX.out], rfl⟩
              · have HX : Hid (bd = false) := by show _ = _; rw [← HE.out]; exact r3
                clear HE HK2 r3
                go_wp2
                go_meet
                exact ⟨by rw [HX.out], rfl⟩
            · have HX : Hid (bd = true) := by
                have := HBD.out
                rw [decide_eq_false hY] at this
                exact this.symm
              have qy : (Y == []) = false := by simpa using hY
              clear HBD HQ HK2 hY
              go_wp2
              go_meet
              exact ⟨by rw [HX.out], rfl⟩
          · have HE : Hid ((decide (6 ≤ K) && decide (d = 32)) = bd) := HBD.out
            clear HBD HQ
            rcases HK2.out with ⟨r1, r2, r3⟩ | ⟨r1, r2, r3⟩ | ⟨r1, r3⟩
            · have HX : Hid (bd = true) := by show _ = _; rw [← HE.out]; exact r3
              clear HE HK2 r3
              go_wp2
              go_meet
              exact ⟨by rw [HX.out], rfl⟩
            · have HX : Hid (bd = false) := by show _ = _; rw [← HE.out]; exact r3
              clear HE HK2 r3
              go_wp2
              go_meet
              exact ⟨by rw [HX.out], rfl⟩
            · have HX : Hid (bd = false) := by show _ = _; rw [← HE.out]; exact r3
              clear HE HK2 r3
              go_wp2
              go_meet
              exact ⟨by rw [HX.out], rfl⟩
    case rest =>
    obtain ⟨rfl, hcw⟩ := hcut
    have hcw2 := hcw.symm
    subst hcw2
    clear cy
    have HOB : Hid ((wmF ⟨K, Y, T, b, z, c⟩ d = true ∧ V = true ∧ (ob = true ∨ Y = [])) ↔ bd = false) := by
      show _ ↔ _
      rw [HWP.out, ← HBD.out]
      cases P <;> cases V <;> cases ob <;> cases decide (6 ≤ K) <;> cases decide (d = 32) <;> by_cases hY : Y = [] <;> simp [hY]
    cases bd
    · obtain ⟨hw, hv, ho⟩ := HOB.out.2 rfl
      have HX : Hid (X = tlF l (fun j => tkF l n j (decide (K = 7)) (d + 1)) (decide (K = 7)) (l.length + 1) c (i + 1) []) := by
        show _ = _
        rw [HF.out, if_pos ⟨hlt, hw, hv, ho⟩]
      have HD : Hid (0 < c → TkC n (d + 1)) := fun hc => HIH.out (HK.out hw hc)
      have q2 : (K == 7) = decide (K = 7) := by
        by_cases h7 : K = 7
        · rw [decide_eq_true h7]; simpa using h7
        · rw [decide_eq_false h7]; simpa using h7
      generalize decide (K = 7) = o7 at *
      clear HF HWP HK HBD HOB HIH hw hv ho
      have HBlq : Hid (∀ wx, Below w2.heap.size w2 wx → Bl 36 wx w.heap.size (nC ⟨K, Y, T, b, z, c⟩)) := fun wx hx => HBl2.out.below hx HBl2.out.lt
      have HBq : Hid (∀ wx, Below w2.heap.size w2 wx → Below w.heap.size w wx) := fun wx hx => HB2.out.trans (hx.mono HB2.out.size)
      clear HBl2 HB2 ck
      go_wp2
      go_loopw [12, 13, 14] (fun s12 s13 s14 wx => ∃ (j k f : Nat) (ns : List (List UInt8)), s12 = .int .i64 j ∧ s14 = .int .i64 k ∧ j ≤ l.length ∧ k < j ∧ l.length < f + j ∧ ns.length = k ∧ OS w2.heap.size wx s13 ns ∧ Below w2.heap.size w2 wx ∧ tlF l (fun j => tkF l n j o7 (d + 1)) o7 f (c - (k : Int)) j ns = X) (fun s _ _ _ => l.length - (intOf s).toNat)
      case atStart => exact ⟨i + 1, 0, l.length + 1, [], by go_num, rfl, by omega, by omega, by omega, rfl, World.ownsRow_nil _ _ _ _, Below.refl _ _, by rw [HX.out, show c - ((0 : Nat) : Int) = c by omega]⟩
      case round =>
        obtain ⟨j, k, f, ns, rfl, rfl, hj, hkj, hf, hns, hos, hb, htl⟩ := hrel
        obtain ⟨va, vc, rfl, _, _⟩ := own_slice hos
        have HOS : Hid (OS w2.heap.size wr (.slice va ns.length vc) ns) := hos
        have HBr : Hid (Below w2.heap.size w2 wr) := hb
        have HTL : Hid (tlF l (fun j => tkF l n j o7 (d + 1)) o7 f (c - (k : Int)) j ns = X) := htl
        have HNS : Hid (ns.length = k) := hns
        have ckk : wr.cell? ⟨w.heap.size, 0, none⟩ = some (.int .i64 K) := (HBlq.out wr hb).cell 0 (by simp [nC])
        have ckc : wr.cell? ⟨w.heap.size, 5, none⟩ = some (.int .i64 c) := (HBlq.out wr hb).cell 5 (by simp [nC])
        have hnk : ns.length < j := by omega
        clear hos htl HX hns
        by_cases hc : (k : Int) < c
        · have q3 : decide ((k : Int) < c) = true := decide_eq_true hc
          have CT := HD.out (by omega) l _ cap j o7 wr (HNq.out wr (HBq.out wr hb)) hl HT.out hj
          obtain ⟨f, rfl⟩ : ∃ f', f = f' + 1 := ⟨f - 1, by omega⟩
          have hst := HTL.out
          rw [tl_step (by omega)] at hst
          obtain ⟨t, ht⟩ : ∃ t, tkF l n j o7 (d + 1) = t := ⟨_, rfl⟩
          have hgt : ∀ j2, t = some j2 → j < j2 ∧ j2 ≤ l.length := fun j2 e => tk_gt n j o7 (d + 1) j2 (by rw [ht]; exact e)
          simp only [ht] at hst
          rw [ht] at CT
          clear HTL ht hb
          cases t with
          | none =>
            have HX : Hid (X = none) := hst.symm
            have CT2 : Calls Tryd.prog 15 #[.slice (some ⟨g, off, none⟩) l.length cap, .int .i64 (j : Int), .bool o7, .int .i64 (d + 1)] wr fun e w' => e = .returned (.int .i64 (-1)) ∧ Below wr.heap.size wr w' := CT
            clear hst hgt CT
            go_wp2_with fail
            refine CT2.mono ?_
            clear CT2
            rintro e w4 ⟨rfl, hB4⟩
            have HB4 : Hid (Below w2.heap.size w2 w4) := HBr.out.trans (hB4.mono HBr.out.size)
            have HBz : Hid (Below w.heap.size w w4) := HBq.out w4 HB4.out
            clear hB4 ckk ckc
            go_wp2
            go_ret
            rw [HX.out]
            exact ⟨rfl, HBz.out⟩
          | some j2 =>
            obtain ⟨hg1, hg2⟩ := hgt j2 rfl
            have HST : Hid ((if o7 = true ∧ (l.getD j (nd0 0)).key ∈ ns then none else tlF l (fun j => tkF l n j o7 (d + 1)) o7 f (c - (k : Int) - 1) j2 (ns ++ [(l.getD j (nd0 0)).key])) = X) := hst
            have CT2 : Calls Tryd.prog 15 #[.slice (some ⟨g, off, none⟩) l.length cap, .int .i64 (j : Int), .bool o7, .int .i64 (d + 1)] wr fun e w' => e = .returned (.int .i64 (j2 : Int)) ∧ Below wr.heap.size wr w' := CT
            have q4 : decide ((j2 : Int) < 0) = false := decide_eq_false (by omega)
            clear hst hgt CT
            go_wp2_with fail
            refine CT2.mono ?_
            clear CT2
            rintro e w4 ⟨rfl, hB4⟩
            have HB4 : Hid (Below w2.heap.size w2 w4) := HBr.out.trans (hB4.mono HBr.out.size)
            have HOS4 : Hid (OS w2.heap.size w4 (.slice va ns.length vc) ns) := own_below HOS.out hB4 (Nat.le_refl _)
            have ck4 : w4.cell? ⟨w.heap.size, 0, none⟩ = some (.int .i64 K) := (HBlq.out w4 HB4.out).cell 0 (by simp [nC])
            obtain ⟨_, _, e', hc4⟩ := (HNq.out w4 (HBq.out w4 HB4.out)).at (show j < l.length by omega)
            cases e'
            obtain ⟨Y2, hY2⟩ : ∃ y, (l.getD j (nd0 0)).key = y := ⟨_, rfl⟩
            have cy4 := hc4 1 (.string ⟨Y2.toArray⟩) (by omega) (by rw [← hY2]; rfl)
            rw [hY2] at HST
            have CA := among_any (.slice va ns.length vc) ns Y2 w4 (os_sr HOS4.out) (by omega)
            clear hc4 hY2 hB4 ckk ckc HOS HBr
            have ho1 : OS w2.heap.size (w4.alloc (.cells #[.string ⟨Y2.toArray⟩] 9)) (.slice va ns.length vc) ns := World.ownsRow.alloc HOS4.out _
            have hsz : w2.heap.size ≤ (w4.alloc (.cells #[.string ⟨Y2.toArray⟩] 9)).heap.size := by rw [alloc_size]; have := HB4.out.size; omega
            have hBa : Below w2.heap.size w2 (w4.alloc (.cells #[.string ⟨Y2.toArray⟩] 9)) := HB4.out.trans ((alloc_below _ _).mono HB4.out.size)
            have HSZ : Hid (w2.heap.size ≤ w4.heap.size) := HB4.out.size
            cases o7
            · have HTL2 : Hid (tlF l (fun j => tkF l n j false (d + 1)) false f (c - ((k + 1 : Nat) : Int)) j2 (ns ++ [Y2]) = X) := by
                have := HST.out
                rw [if_neg (fun h => by cases h.1), show c - (k : Int) - 1 = c - ((k + 1 : Nat) : Int) by omega] at this
                exact this
              clear HST CA
              go_wp2_with (at_builtin; refine append_s (wr := w4) rfl (.tmp 86) (.tmp 92) rfl w2.heap.size _ ns Y2 rfl HOS4.out w4.heap.size rfl rfl (by omega) HSZ.out ?_; intro g5 c5 w5 h5 h6 h7; have HO5 : Hid (OS w2.heap.size w5 (.slice (some ⟨g5, 0, none⟩) (ns.length + 1) c5) (ns ++ [Y2])) := h5; have HB5 : Hid (Below w2.heap.size w2 w5) := hBa.grown h6 hsz (own_block ho1); clear h5 h6 h7 ho1 hBa hsz)
              go_roundw
              case rel => exact ⟨j2, k + 1, f, ns ++ [Y2], rfl, by go_num, hg2, by omega, by omega, by rw [List.length_append, HNS.out]; rfl, by have := HO5.out; exact this, HB5.out, HTL2.out⟩
              case measure => simp [intOf]; omega
            · by_cases hin : Y2 ∈ ns
              · have HX : Hid (X = none) := by
                  have := HST.out
                  rw [if_pos ⟨rfl, hin⟩] at this
                  exact this.symm
                have qn : ns.contains Y2 = true := by simpa using hin
                rw [qn] at CA
                have HBz : Hid (Below w.heap.size w w4) := HBq.out w4 HB4.out
                clear HST hin qn ho1 hBa hsz
                go_wp2_with fail
                refine CA.mono ?_
                clear CA
                rintro e w5 ⟨rfl, rfl⟩
                go_wp2
                go_ret
                rw [HX.out]
                exact ⟨rfl, HBz.out⟩
              · have HTL2 : Hid (tlF l (fun j => tkF l n j true (d + 1)) true f (c - ((k + 1 : Nat) : Int)) j2 (ns ++ [Y2]) = X) := by
                  have := HST.out
                  rw [if_neg (fun h => hin h.2), show c - (k : Int) - 1 = c - ((k + 1 : Nat) : Int) by omega] at this
                  exact this
                have qn : ns.contains Y2 = false := by simpa using hin
                rw [qn] at CA
                clear HST hin qn
                go_wp2_with fail
                refine CA.mono ?_
                clear CA
                rintro e w5 ⟨rfl, rfl⟩
                go_wp2_with (at_builtin; refine append_s (wr := w5) rfl (.tmp 86) (.tmp 92) rfl w2.heap.size _ ns Y2 rfl HOS4.out w5.heap.size rfl rfl (by omega) HSZ.out ?_; intro g5 c5 w6 h5 h6 h7; have HO5 : Hid (OS w2.heap.size w6 (.slice (some ⟨g5, 0, none⟩) (ns.length + 1) c5) (ns ++ [Y2])) := h5; have HB5 : Hid (Below w2.heap.size w2 w6) := hBa.grown h6 hsz (own_block ho1); clear h5 h6 h7 ho1 hBa hsz)
                go_roundw
                case rel => exact ⟨j2, k + 1, f, ns ++ [Y2], rfl, by go_num, hg2, by omega, by omega, by rw [List.length_append, HNS.out]; rfl, by have := HO5.out; exact this, HB5.out, HTL2.out⟩
                case measure => simp [intOf]; omega
        · have q3 : decide ((k : Int) < c) = false := decide_eq_false hc
          have HX : Hid (X = some j) := by
            show _ = _
            rw [← HTL.out]
            exact tl_stop (by omega)
          have HBz : Hid (Below w.heap.size w wr) := HBq.out wr hb
          clear HTL hb
          go_wp2
          go_ret
          rw [HX.out]
          exact ⟨rfl, HBz.out⟩
    · have HX : Hid (X = none) := by
        show _ = _
        rw [HF.out, if_neg (fun hx => by have := HOB.out.1 ⟨hx.2.1, hx.2.2.1, hx.2.2.2⟩; cases this)]
      clear HF HWP HK HBD HOB HIH
      go_wp2
      go_ret
      rw [HX.out]
      exact ⟨rfl, HB2.out⟩
  · have HX : Hid (tkF l (n + 1) i ob d = none) := by show _ = _; unfold tkF; rw [if_neg (fun hx => hlt hx.1)]
    have q0 : decide ((i : Int) ≥ (l.length : Int)) = true := decide_eq_true (by omega)
    have q1 : decide (l.length ≤ i) = true := decide_eq_true (by omega)
    clear h ih hT
    go_enter Tryd.func15, Tryd.ntmps15
    go_wp2
    go_ret
    rw [HX.out]
    exact ⟨rfl, Below.refl _ _⟩

theorem rtake_any : ∀ (n : Nat) (d : Int), 0 ≤ d → d + n = 32 → TkC (n + 1) d
  | 0, d, h0, h => rtake_step 0 d h0 h (fun h2 => by omega)
  | n + 1, d, h0, h => rtake_step (n + 1) d h0 h (fun _ => rtake_any n (d + 1) (by omega) (by omega))

set_option maxRecDepth 100000 in
set_option maxHeartbeats 4000000 in
/-- The document's Shaped. -/
theorem rshaped_any (l : List Nd) (ao : Option Addr) (cap : Nat) (w : World) (h : NR w (.slice ao l.length cap) l ao cap) (hl : l.length ≤ 100000000) (hT : TS l) :
    Calls Tryd.prog 8 #[.slice ao l.length cap] w fun e w' => e = .returned (.bool (shapedF l)) ∧ Below w.heap.size w w' := by
  rw [← tsh_eq]
  have C1 : Calls Tryd.prog 15 #[.slice ao l.length cap, .int .i64 0, .bool false, .int .i64 0] w fun e w' => e = .returned (.int .i64 (tkI (tkF l 33 0 false 0))) ∧ Below w.heap.size w w' := rtake_any 32 0 (by omega) (by omega) l ao cap 0 false w h hl hT (Nat.zero_le _)
  obtain ⟨_, hcap, _⟩ := id h
  by_cases h0 : 0 < l.length
  · have q0 : decide ((l.length : Int) > 0) = true := decide_eq_true (by omega)
    have HF : Hid (tshF l = (tkI (tkF l 33 0 false 0) == (l.length : Int))) := by
      show _ = _
      unfold tshF
      cases tkF l 33 0 false 0 with
      | none => symm; show ((-1 : Int) == _) = false; simp
      | some j =>
        show decide (j = l.length) = ((j : Int) == (l.length : Int))
        by_cases hj : j = l.length
        · subst hj; simp
        · rw [decide_eq_false hj]; symm; simp; omega
    generalize tkI (tkF l 33 0 false 0) = r at *
    obtain ⟨B, hB⟩ : ∃ B, (r == (l.length : Int)) = B := ⟨_, rfl⟩
    rw [hB] at HF
    clear h hT
    go_enter Tryd.func8, Tryd.ntmps8
    go_wp2_with fail
    refine C1.mono ?_
    clear C1
    rintro e w1 ⟨rfl, hB1⟩
    go_wp2
    go_ret
    rw [HF.out]
    exact ⟨rfl, hB1⟩
  · have q0 : decide ((l.length : Int) > 0) = false := decide_eq_false (by omega)
    have hn : l = [] := List.eq_nil_of_length_eq_zero (by omega)
    have HF : Hid (tshF l = false) := by rw [hn]; rfl
    clear h hT C1
    go_enter Tryd.func8, Tryd.ntmps8
    go_wp2
    go_ret
    rw [HF.out]
    exact ⟨rfl, Below.refl _ _⟩

end Go.Proofs.YtkfchdmlemcjhaaDoor
