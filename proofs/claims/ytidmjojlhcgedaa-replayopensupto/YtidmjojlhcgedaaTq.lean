import Derived.Test.YtidmjojlhcgedaaTp
namespace Go.Proofs.Ytidmjojlhcgedaa
open Go.RowKit Go.Maps
set_option maxRecDepth 100000

theorem nil_of_own {w : World} {base c n : Nat} {v : Value} {ao : Option Addr} {xs : List UInt8} (h : Owb w base v xs) (e : v = .slice ao n c) : ao = none → c = 0 := by
  rintro rfl
  rcases h.2 with ⟨e2, _⟩ | ⟨_, _, _, e2, _⟩
  · rw [e] at e2; simp at e2; exact e2.2
  · rw [e] at e2; cases e2

/-- What stands while an answer is written over. -/
structure Zs (B0 bb mb gm gi ni ci g2 n2 c2 : Nat) (b : Bk) (xs im : List UInt8) (w0 w : World) : Prop where
  bok : Bok w bb mb b
  mq : Mq w B0 gm b
  inn : Owb w B0 (.slice (some ⟨gi, 0, none⟩) ni ci) xs
  k2 : Owb w B0 (.slice (some ⟨g2, 0, none⟩) n2 c2) im
  bel : Below w0.heap.size w0 w
theorem Zs.below {B0 bb mb gm gi ni ci g2 n2 c2 : Nat} {b : Bk} {xs im : List UInt8} {w0 w w' : World} (h : Zs B0 bb mb gm gi ni ci g2 n2 c2 b xs im w0 w) (hb : Below w.heap.size w w') : Zs B0 bb mb gm gi ni ci g2 n2 c2 b xs im w0 w' :=
  ⟨h.bok.below hb h.bok.lt h.bok.lt2, h.mq.below hb (Nat.le_refl _), h.inn.below hb (Nat.le_refl _), h.k2.below hb (Nat.le_refl _), h.bel.trans (hb.mono h.bel.size)⟩
theorem Zs.drewN {B0 bb mb gm gi ni ci g2 n2 c2 : Nat} {b : Bk} {xs im : List UInt8} {w0 w : World} (h : Zs B0 bb mb gm gi ni ci g2 n2 c2 b xs im w0 w) (q : Nat) : Zs B0 bb mb gm gi ni ci g2 n2 c2 b xs im w0 (w.drewN q) := h.below (below_drewN (Below.refl _ _) q)
theorem own_one {g n c k : Nat} (h : (Value.slice (some ⟨g, 0, none⟩) n c).ownBlock = some k) : g = k := by simpa [Value.ownBlock] using h
theorem Zs.cu {f : Nat → Prop} {B0 bb mb gm gi ni ci g2 n2 c2 : Nat} {b : Bk} {xs im : List UInt8} {w0 w w' : World} (h : Zs B0 bb mb gm gi ni ci g2 n2 c2 b xs im w0 w) (hc : Cu f w w') (h1 : ¬ f gi) (h2 : ¬ f g2) (hf : ∀ k, f k → w0.heap.size ≤ k) : Zs B0 bb mb gm gi ni ci g2 n2 c2 b xs im w0 w' :=
  ⟨h.bok.cu hc, h.mq.cu hc, h.inn.chf hc.c (fun _ hg => own_one hg ▸ h1), h.k2.chf hc.c (fun _ hg => own_one hg ▸ h2), chf_new h.bel hc.c hf⟩
theorem Owb.rdn {w : World} {base g n c : Nat} {xs : List UInt8} (h : Owb w base (.slice (some ⟨g, 0, none⟩) n c) xs) : Rd w (some ⟨g, 0, none⟩) xs := by
  obtain ⟨ao, c', e, _, hr⟩ := h.nb
  simp only [Value.slice.injEq] at e
  obtain ⟨e1, _, _⟩ := e
  subst e1
  exact hr
theorem set_first {xs : List UInt8} {i : Nat} {z : UInt8} (hi : i < xs.length) (h : 0 < i → xs.getD 0 0 = z) : (xs.set i z).getD 0 0 = z := by
  cases xs with
  | nil => simp at hi
  | cons x r =>
    cases i with
    | zero => rfl
    | succ n => simpa using h (by omega)
theorem err_seven {l : List UInt8} (h : 0 < l.length) (h7 : l.getD 0 0 = 7) : openR l = .error 0 := open_e0' h (by rw [h7]; decide)

set_option maxHeartbeats 16000000 in
theorem opens_law (ai : Option Addr) (ci : Nat) (ls : List UInt8) (w : World) (hri0 : Rd w ai ls) (hcap : ls.length ≤ ci) (hll : ls.length ≤ 5000000) :
    Calls Try.prog 8 #[.slice ai ls.length ci] w fun e w' => e = .returned (.bool true) ∧ Below w.heap.size w w' := by
  have hri : Hid (Rd w ai ls) := hri0
  have hcaph : Hid (ls.length ≤ ci) := hcap
  clear hri0 hcap
  go_enter Try.func8, Try.ntmps8
  go_wp2_with fail
  refine (marked_any ai ci ls w hri.out (by omega)).mono ?_
  rintro e w1 ⟨gi, c1, rfl, hO1', hb1'⟩
  have hO1 : Hid (Owb w1 w.heap.size (.slice (some ⟨gi, 0, none⟩) (ls.length + 60) c1) (ls ++ marks 60)) := hO1'
  have hb1 : Hid (Below w.heap.size w w1) := hb1'
  obtain ⟨hc60, _, hgi, hgl⟩ := hO1'.room
  have hr1 : Rd w1 (some ⟨gi, 0, none⟩) ls := by
    refine .inr ⟨gi, 0, rfl, hgl, fun j hj => ?_⟩
    have := hO1'.cell (j := j) (by rw [List.length_append]; omega)
    rw [Nat.zero_add, this, List.getD_eq_getElem?_getD, List.getElem?_append_left hj, ← List.getD_eq_getElem?_getD]
    rfl
  have OC := open_any (some ⟨gi, 0, none⟩) c1 ls w1 hr1 (by omega) (fun e => by cases e) (by omega)
  have RC : Hid (∀ w', Below w.heap.size w w' → Calls Try.prog 24 #[.slice ai ls.length ci] w' fun e w'' => ropenP w' e w'' (openR ls)) := fun w' hb => ropen_any ai ci ls w' (hri.out.below hb (Nat.le_refl _)) hcaph.out (by omega)
  have WC : Hid (∀ w' : World, Below w.heap.size w w' → Owb w' w.heap.size (.slice (some ⟨gi, 0, none⟩) (ls.length + 60) c1) (ls ++ marks 60) → Calls Try.prog 25 #[.slice (some ⟨gi, 0, none⟩) ls.length c1, .slice ai ls.length ci] w' fun e w'' => e = .returned (.bool true) ∧ ∃ q, w'' = w'.drewN q) := fun w' hb hO => wholem_any gi c1 w.heap.size ai ci ls w' hO (hri.out.below hb (Nat.le_refl _)) (by omega)
  have hXh : Hid (∀ b, openR ls = .ok b → BkOk b ∧ imgF b = ls) := fun b h => img_open h
  clear hO1' hb1' hr1
  have hv : Hid (∀ X, openR ls = X → X = openR ls) := fun X h => h.symm
  cases hX : openR ls with
  | error k =>
    rw [hX] at OC RC
    clear hXh hX hv
    go_wp2_with fail
    refine OC.mono ?_
    rintro e w2 ⟨rfl, hb'⟩
    have hO2 : Hid (Owb w2 w.heap.size (.slice (some ⟨gi, 0, none⟩) (ls.length + 60) c1) (ls ++ marks 60)) := hO1.out.below hb' (Nat.le_refl _)
    have hb2 : Hid (Below w.heap.size w w2) := hb1.out.trans (hb'.mono hb1.out.size)
    clear hb' OC hO1 hb1
    go_wp2_with fail
    refine (RC.out w2 hb2.out).mono ?_
    rintro e w3 ⟨rfl, hb'⟩
    have hO3 : Hid (Owb w3 w.heap.size (.slice (some ⟨gi, 0, none⟩) (ls.length + 60) c1) (ls ++ marks 60)) := hO2.out.below hb' (Nat.le_refl _)
    have hb3 : Hid (Below w.heap.size w w3) := hb2.out.trans (hb'.mono hb2.out.size)
    clear hb' RC hO2 hb2
    go_wp2_with fail
    refine (WC.out w3 hb3.out hO3.out).mono ?_
    rintro e w4 ⟨rfl, q, rfl⟩
    go_wp2_with fail
    go_ret
    exact ⟨rfl, below_drewN hb3.out _⟩
  | ok b =>
    obtain ⟨hK', him⟩ := hXh.out b hX
    have hK : Hid (BkOk b) := hK'
    have himh : Hid (imgF b = ls) := him
    have hls0 : Hid (0 < ls.length) := by
      show _ < _
      rw [← him]
      have : 8 ≤ (imgF b).length := by simp [imgF, tobe_length]
      omega
    rw [hX] at OC RC
    clear hXh hX hv hK' him
    go_wp2_with fail
    refine OC.mono ?_
    rintro e w2 ⟨bb, mb, rfl, hB', hbb, hmb, hb'⟩
    have hO2 : Hid (Owb w2 w.heap.size (.slice (some ⟨gi, 0, none⟩) (ls.length + 60) c1) (ls ++ marks 60)) := hO1.out.below hb' (Nat.le_refl _)
    have hb2 : Hid (Below w.heap.size w w2) := hb1.out.trans (hb'.mono hb1.out.size)
    have hB2 : Hid (Bok w2 bb mb b) := hB'
    clear hb' OC hO1 hb1 hB'
    go_wp2_with fail
    refine (RC.out w2 hb2.out).mono ?_
    rintro e w3 ⟨gm, rfl, hM', hb'⟩
    have hO3 : Hid (Owb w3 w.heap.size (.slice (some ⟨gi, 0, none⟩) (ls.length + 60) c1) (ls ++ marks 60)) := hO2.out.below hb' (Nat.le_refl _)
    have hb3 : Hid (Below w.heap.size w w3) := hb2.out.trans (hb'.mono hb2.out.size)
    have hB3 : Hid (Bok w3 bb mb b) := hB2.out.below hb' hB2.out.lt hB2.out.lt2
    have hM3 : Hid (Mq w3 w.heap.size gm b) := hM'.base hb2.out.size
    clear hb' RC hO2 hb2 hM' hB2
    go_wp2_with fail
    refine (WC.out w3 hb3.out hO3.out).mono ?_
    rintro e w4 ⟨rfl, q, rfl⟩
    clear WC
    obtain ⟨L, hL⟩ : ∃ L, ls.length = L := ⟨_, rfl⟩
    have hLh : Hid (ls.length = L) := hL
    have hO4 : Hid (Owb (w3.drewN q) w.heap.size (.slice (some ⟨gi, 0, none⟩) (L + 60) c1) (ls ++ marks 60)) := by have := hO3.out; rw [hL] at this; exact this
    have hB4 : Hid (Bok (w3.drewN q) bb mb b) := hB3.out.below (below_drewN (Below.refl _ _) q) hB3.out.lt hB3.out.lt2
    have hM4 : Hid (Mq (w3.drewN q) w.heap.size gm b) := hM3.out.drewN q
    have hb4 : Hid (Below w.heap.size w (w3.drewN q)) := below_drewN hb3.out q
    have hxl : Hid ((ls ++ marks 60).length = L + 60) := by show _ = _; rw [List.length_append, marks_length, hL]
    rw [hL] at hll hls0 hc60 ⊢
    clear hO3 hB3 hM3 hb3 hL
    generalize ls ++ marks 60 = xs0 at hO4 hxl
    obtain ⟨w4, hw4⟩ : ∃ w4, w3.drewN q = w4 := ⟨_, rfl⟩
    rw [hw4] at hO4 hB4 hM4 hb4 ⊢
    clear hw4
    go_wp2_with fail
    go_loopw [10] (fun s wr => ∃ (i : Nat) (xs : List UInt8), s = .int .i64 (i : Int) ∧ i ≤ L ∧ xs.length = L + 60 ∧ Hid (0 < i → xs.getD 0 0 = 7) ∧ Owb wr w.heap.size (.slice (some ⟨gi, 0, none⟩) (L + 60) c1) xs ∧ Bok wr bb mb b ∧ Mq wr w.heap.size gm b ∧ Below w.heap.size w wr) (fun s _ => L - (intOf s).toNat)
    case atStart => exact ⟨0, xs0, rfl, Nat.zero_le _, hxl.out, (fun h => by omega), hO4.out, hB4.out, hM4.out, hb4.out⟩
    case round =>
      obtain ⟨i, xs, rfl, hi, hxs, hx7, hO', hB', hM', hb'⟩ := hrel
      have hO9 : Hid (Owb wr w.heap.size (.slice (some ⟨gi, 0, none⟩) (L + 60) c1) xs) := hO'
      have hB9 : Hid (Bok wr bb mb b) := hB'
      have hM9 : Hid (Mq wr w.heap.size gm b) := hM'
      have hb9 : Hid (Below w.heap.size w wr) := hb'
      have hxsh : Hid (xs.length = L + 60) := hxs
      clear hO' hB' hM' hb' hO4 hB4 hM4 hb4 hxl hxs
      by_cases hlt : i < L
      · have c0 := hO9.out.cell (j := i) (by rw [hxsh.out]; omega)
        have f0 := hO9.out.frozen i
        generalize (xs.getD i 0).toNat = z9 at c0
        have hc9 := set_cu hO9.out i (.int .u8 ((7 : UInt8).toNat : Int))
        have hO10 : Hid (Owb (wr.setCell ⟨gi, i, none⟩ (.int .u8 7)) w.heap.size (.slice (some ⟨gi, 0, none⟩) (L + 60) c1) (xs.set i 7)) := hO9.out.set i 7
        have hB10 : Hid (Bok (wr.setCell ⟨gi, i, none⟩ (.int .u8 7)) bb mb b) := hB9.out.cu hc9
        have hM10 : Hid (Mq (wr.setCell ⟨gi, i, none⟩ (.int .u8 7)) w.heap.size gm b) := hM9.out.cu hc9
        have hb10 : Hid (Below w.heap.size w (wr.setCell ⟨gi, i, none⟩ (.int .u8 7))) := chf_new hb9.out hc9.c (fun k hk => by rw [hk]; exact hgi)
        have hii : (i : Int) < (L : Int) := by omega
        have hx10 : Hid ((xs.set i 7).getD 0 0 = 7) := set_first (by rw [hxsh.out]; omega) hx7.out
        clear hc9 hO9 hB9 hM9 hb9 hx7
        go_wp2_with fail
        go_roundw
        case rel => exact ⟨i + 1, xs.set i 7, by go_num, by omega, by rw [List.length_set]; exact hxsh.out, (fun _ => hx10.out), hO10.out, hB10.out, hM10.out, hb10.out⟩
        case measure => simp [intOf]; omega
      · obtain rfl : L = i := by omega
        have hx0 : Hid (xs.getD 0 0 = 7) := hx7.out hls0.out
        clear hx7 hlt hi
        have IC : Hid (∀ w', Bok w' bb mb b → Calls Try.prog 13 #[.pointer (some ⟨bb, 0, none⟩)] w' fun e w'' => ∃ v', e = .returned v' ∧ OBb w'.heap.size w' w'' v' ls) := fun w' h => by
          have := image_any bb mb b w' h hK.out
          rw [himh.out] at this
          exact this
        have MC : Hid (∀ w', Mq w' w.heap.size gm b → Calls Try.prog 27 #[.pointer (some ⟨gm, 0, none⟩)] w' fun e w'' => ∃ v c, e = .returned (.slice v L c) ∧ Rd w'' v ls ∧ Below w'.heap.size w' w'') := fun w' h => (rimage_any w.heap.size gm b w' h hK.out).mono (by
          rintro e w'' ⟨v, rfl, ho, hb⟩
          rw [himh.out] at ho
          obtain ⟨a, c, rfl, _, hr⟩ := ho.nb
          rw [hLh.out]
          exact ⟨a, c, rfl, hr, hb⟩)
        have SC : Hid (∀ (w' : World) a1 a2 c1 c2, Rd w' a1 ls → Rd w' a2 ls → Calls Try.prog 14 #[.slice a1 L c1, .slice a2 L c2] w' fun e w'' => e = .returned (.bool true) ∧ ∃ q, w'' = w'.drewN q) := fun w' a1 a2 c1 c2 h1 h2 => by
          have := same_any a1 a2 c1 c2 ls ls w' h1 h2 (by rw [hLh.out]; omega)
          rw [show decide (ls = ls) = true by simp, hLh.out] at this
          exact this
        go_wp2_with fail
        refine (IC.out wr hB9.out).mono ?_
        rintro e w5 ⟨v5, rfl, ho5⟩
        obtain ⟨g1, cl, rfl, hg1, hgl1, hcl1, _⟩ := ho5.own.addr (by rw [hLh.out]; exact hls0.out)
        have hs9 := hb9.out.size
        have hO5' := ho5.own
        rw [hLh.out] at hO5' hcl1 ⊢
        have hl5 : Hid (Owb w5 wr.heap.size (.slice (some ⟨g1, 0, none⟩) L cl) ls) := hO5'
        have hb95 := ho5.bel
        have hO6 : Hid (Owb w5 w.heap.size (.slice (some ⟨gi, 0, none⟩) (L + 60) c1) xs) := hO9.out.below hb95 (Nat.le_refl _)
        have hB5 : Hid (Bok w5 bb mb b) := hB9.out.below hb95 hB9.out.lt hB9.out.lt2
        have hM5 : Hid (Mq w5 w.heap.size gm b) := hM9.out.below hb95 (Nat.le_refl _)
        have hb5 : Hid (Below w.heap.size w w5) := hb9.out.trans (hb95.mono hs9)
        have hgi9 := hO9.out.room.2.2.2
        have n1i : g1 ≠ gi := by omega
        have hg1w : w.heap.size ≤ g1 := by omega
        clear ho5 hO5' hb95 hO9 hB9 hM9 hb9
        go_wp2_with fail
        refine (IC.out w5 hB5.out).mono ?_
        rintro e w6 ⟨v6, rfl, ho6⟩
        obtain ⟨g2, c2, rfl, hg2, hgl2, hcl2, _⟩ := ho6.own.addr (by rw [hLh.out]; exact hls0.out)
        have hO7' := ho6.own
        rw [hLh.out] at hO7' hcl2 ⊢
        have hb56 := ho6.bel
        have hs5 := hb5.out.size
        have hZ6 : Hid (Zs w.heap.size bb mb gm gi (L + 60) c1 g2 L c2 b xs ls w w6) := ⟨hB5.out.below hb56 hB5.out.lt hB5.out.lt2, hM5.out.below hb56 (Nat.le_refl _), hO6.out.below hb56 (Nat.le_refl _), hO7'.base hs5, hb5.out.trans (hb56.mono hs5)⟩
        have hl6 : Hid (Owb w6 w.heap.size (.slice (some ⟨g1, 0, none⟩) L cl) ls) := (hl5.out.below hb56 (Nat.le_refl _)).base hs9
        have n12 : g1 ≠ g2 := by omega
        have n2i : g2 ≠ gi := by omega
        clear ho6 hO7' hb56 hO6 hB5 hM5 hb5 hl5 hs5 hs9 hgi9 hg2 hgl2 hg1 hgl1
        go_wp2_with fail
        refine (tells_any w.heap.size bb mb gm b w6 hZ6.out.bok hZ6.out.mq hK.out).mono ?_
        rintro e w7 ⟨rfl, hb'⟩
        have hZ7 : Hid (Zs w.heap.size bb mb gm gi (L + 60) c1 g2 L c2 b xs ls w w7) := hZ6.out.below hb'
        have hl7 : Hid (Owb w7 w.heap.size (.slice (some ⟨g1, 0, none⟩) L cl) ls) := hl6.out.below hb' (Nat.le_refl _)
        clear hb' hZ6 hl6
        go_wp2_with fail
        refine (MC.out w7 hZ7.out.mq).mono ?_
        rintro e w8 ⟨a8, c8, rfl, hr8, hb'⟩
        have hr8h : Hid (Rd w8 a8 ls) := hr8
        have hZ8 : Hid (Zs w.heap.size bb mb gm gi (L + 60) c1 g2 L c2 b xs ls w w8) := hZ7.out.below hb'
        have hl8 : Hid (Owb w8 w.heap.size (.slice (some ⟨g1, 0, none⟩) L cl) ls) := hl7.out.below hb' (Nat.le_refl _)
        clear hb' hZ7 hl7 hr8
        have hrl : Hid (Rd w8 (some ⟨g1, 0, none⟩) ls) := by
          obtain ⟨a, c, e, _, hr⟩ := hl8.out.nb
          cases e
          exact hr
        go_wp2_with fail
        refine (SC.out w8 _ _ _ _ hrl.out hr8h.out).mono ?_
        rintro e w9 ⟨rfl, q9, rfl⟩
        have hZ9 : Hid (Zs w.heap.size bb mb gm gi (L + 60) c1 g2 L c2 b xs ls w (w8.drewN q9)) := hZ8.out.drewN q9
        have hl9 : Hid (Owb (w8.drewN q9) w.heap.size (.slice (some ⟨g1, 0, none⟩) L cl) ls) := hl8.out
        clear hZ8 hl8 hrl hr8h
        obtain ⟨wz, hwz⟩ : ∃ wz, w8.drewN q9 = wz := ⟨_, rfl⟩
        rw [hwz] at hZ9 hl9 ⊢
        clear hwz
        go_wp2_with fail
        go_loopw [13] (fun s wr => ∃ (i : Nat) (ys : List UInt8), s = .int .i64 (i : Int) ∧ i ≤ L ∧ ys.length = L ∧ Owb wr w.heap.size (.slice (some ⟨g1, 0, none⟩) L cl) ys ∧ Zs w.heap.size bb mb gm gi (L + 60) c1 g2 L c2 b xs ls w wr) (fun s _ => L - (intOf s).toNat)
        case atStart => exact ⟨0, ls, rfl, Nat.zero_le _, hLh.out, hl9.out, hZ9.out⟩
        case round =>
          obtain ⟨i, ys, rfl, hi, hys, hl', hZ'⟩ := hrel
          have hl : Hid (Owb wr w.heap.size (.slice (some ⟨g1, 0, none⟩) L cl) ys) := hl'
          have hZ : Hid (Zs w.heap.size bb mb gm gi (L + 60) c1 g2 L c2 b xs ls w wr) := hZ'
          have hysh : Hid (ys.length = L) := hys
          clear hl' hZ' hys hl9 hZ9
          by_cases hlt : i < L
          · have c0 := hl.out.cell (j := i) (by rw [hysh.out]; omega)
            have f0 := hl.out.frozen i
            generalize (ys.getD i 0).toNat = z9 at c0
            have hc9 := set_cu hl.out i (.int .u8 ((9 : UInt8).toNat : Int))
            have hl10 : Hid (Owb (wr.setCell ⟨g1, i, none⟩ (.int .u8 9)) w.heap.size (.slice (some ⟨g1, 0, none⟩) L cl) (ys.set i 9)) := hl.out.set i 9
            have hZ10 : Hid (Zs w.heap.size bb mb gm gi (L + 60) c1 g2 L c2 b xs ls w (wr.setCell ⟨g1, i, none⟩ (.int .u8 9))) := hZ.out.cu hc9 (fun e => n1i e.symm) (fun e => n12 e.symm) (fun k hk => by rw [hk]; exact hg1w)
            have hii : (i : Int) < (L : Int) := by omega
            clear hc9 hl hZ
            go_wp2_with fail
            go_roundw
            case rel => exact ⟨i + 1, ys.set i 9, by go_num, by omega, by rw [List.length_set]; exact hysh.out, hl10.out, hZ10.out⟩
            case measure => simp [intOf]; omega
          · obtain rfl : L = i := by omega
            clear hlt hi
            go_wp2_with fail
            go_loopw [14, 15] (fun s14 s wr => ∃ (q g c : Nat) (zs : List UInt8), s = .int .i64 (q : Int) ∧ s14 = .slice (some ⟨g, 0, none⟩) (L + q) c ∧ q ≤ 70 ∧ zs.length = L + q ∧ g ≠ gi ∧ g ≠ g2 ∧ Owb wr w.heap.size s14 zs ∧ Zs w.heap.size bb mb gm gi (L + 60) c1 g2 L c2 b xs ls w wr) (fun _ s _ => 70 - (intOf s).toNat)
            case atStart => exact ⟨0, g1, cl, ys, rfl, rfl, by omega, hysh.out, n1i, n12, hl.out, hZ.out⟩
            case round =>
              obtain ⟨q, g, c, zs, rfl, rfl, hq, hzs, hgi', hg2', hl', hZ'⟩ := hrel
              have hlo : Hid (Owb wr w.heap.size (.slice (some ⟨g, 0, none⟩) (L + q) c) zs) := hl'
              have hZo : Hid (Zs w.heap.size bb mb gm gi (L + 60) c1 g2 L c2 b xs ls w wr) := hZ'
              have hzsh : Hid (zs.length = L + q) := hzs
              clear hl' hZ' hzs hl hZ
              by_cases hlt : q < 70
              · have hlti := hZo.out.inn.room.2.2.2
                have hlt2 := hZo.out.k2.room.2.2.2
                have hqq : (q : Int) < 70 := by omega
                go_wp2_with (at_builtin; refine append_bl rfl (.tmp 101) (.tmp 102) rfl w.heap.size _ zs 8 8 rfl (L + q) hzsh.out rfl hlo.out rfl (by omega) hZo.out.bel.size ?_; intro g7 c7 w7 h7 hc7 hd7 _; have hlo7 : Hid (Owb w7 w.heap.size (.slice (some ⟨g7, 0, none⟩) (L + q + 1) c7) (zs ++ [8])) := h7; have hZ7 : Hid (Zs w.heap.size bb mb gm gi (L + 60) c1 g2 L c2 b xs ls w w7) := hZo.out.cu hc7 (fun e => hgi' (own_one e)) (fun e => hg2' (own_one e)) (own_block hlo.out); have e1 : g7 ≠ gi := by { rcases hd7 with hd | hd; (have := own_one hd; omega); omega }; have e2 : g7 ≠ g2 := by { rcases hd7 with hd | hd; (have := own_one hd; omega); omega }; clear h7 hc7 hd7)
                go_roundw
                case rel => exact ⟨q + 1, g7, c7, zs ++ [8], by go_num, rfl, by omega, by rw [List.length_append, hzsh.out]; rfl, e1, e2, hlo7.out, hZ7.out⟩
                case measure => simp [intOf]; omega
              · obtain rfl : q = 70 := by omega
                clear hlt hq hgi' hg2' hlo hzsh
                have hy7 : Hid ((xs.take L).length = L) := by show _ = _; rw [List.length_take, hxsh.out]; omega
                have hRd : Hid (∀ w', Zs w.heap.size bb mb gm gi (L + 60) c1 g2 L c2 b xs ls w w' → Rd w' (some ⟨gi, 0, none⟩) (xs.take L)) := fun w' h => by
                  exact h.inn.rdn.take L
                have hE : openR (xs.take L) = .error 0 := err_seven (by rw [hy7.out]; exact hls0.out) (by
                  have := hx0.out
                  rw [List.getD_eq_getElem?_getD, List.getElem?_take_of_lt hls0.out, ← List.getD_eq_getElem?_getD]
                  exact this)
                have MK : Hid (∀ w', Zs w.heap.size bb mb gm gi (L + 60) c1 g2 L c2 b xs ls w w' → Calls Try.prog 23 #[.slice (some ⟨gi, 0, none⟩) L c1] w' fun e w'' => ∃ g c, e = .returned (.slice (some ⟨g, 0, none⟩) L c) ∧ Rd w'' (some ⟨g, 0, none⟩) (xs.take L) ∧ L ≤ c ∧ Below w'.heap.size w' w'') := fun w' h => by
                  have := marked_any (some ⟨gi, 0, none⟩) c1 (xs.take L) w' (hRd.out w' h) (by rw [hy7.out]; omega)
                  rw [hy7.out] at this
                  refine this.mono ?_
                  rintro e w'' ⟨g, c, rfl, ho, hb⟩
                  refine ⟨g, c, rfl, ?_, by have := ho.room.1; omega, hb⟩
                  have h2 := ho.rdn.take L
                  rw [List.take_append_of_le_length (by rw [hy7.out]; exact Nat.le_refl _), List.take_of_length_le (by rw [hy7.out]; exact Nat.le_refl _)] at h2
                  exact h2
                have OP : Hid (∀ w', Zs w.heap.size bb mb gm gi (L + 60) c1 g2 L c2 b xs ls w w' → Calls Try.prog 16 #[.slice (some ⟨gi, 0, none⟩) L c1] w' fun e w'' => e = .returned (.tuple #[.pointer none, .int .i64 163, .int .i64 0]) ∧ Below w'.heap.size w' w'') := fun w' h => by
                  have := open_any (some ⟨gi, 0, none⟩) c1 (xs.take L) w' (hRd.out w' h) (by rw [hy7.out]; omega) (fun e => by cases e) (by rw [hy7.out]; omega)
                  rw [hy7.out, hE] at this
                  exact this
                have RO : Hid (∀ w' g c, Rd w' (some ⟨g, 0, none⟩) (xs.take L) → L ≤ c → Calls Try.prog 24 #[.slice (some ⟨g, 0, none⟩) L c] w' fun e w'' => e = .returned (.tuple #[.pointer none, .int .i64 163, .int .i64 0]) ∧ Below w'.heap.size w' w'') := fun w' g c h hc => by
                  have := ropen_any (some ⟨g, 0, none⟩) c (xs.take L) w' h (by rw [hy7.out]; exact hc) (by rw [hy7.out]; omega)
                  rw [hy7.out, hE] at this
                  exact this
                have I2 : Hid (∀ w', Bok w' bb mb b → Calls Try.prog 13 #[.pointer (some ⟨bb, 0, none⟩)] w' fun e w'' => ∃ v c, e = .returned (.slice v L c) ∧ Rd w'' v ls ∧ Below w'.heap.size w' w'') := fun w' h => (IC.out w' h).mono (by
                  rintro e w'' ⟨v, rfl, ho⟩
                  obtain ⟨a, c, rfl, _, hr⟩ := ho.own.nb
                  rw [hLh.out]
                  exact ⟨a, c, rfl, hr, ho.bel⟩)
                clear IC hE hRd hy7
                have qL : ((L : Int) + 70 == (L : Int) + 70) = true := by simp
                go_wp2_with fail
                refine (MK.out wr hZo.out).mono ?_
                rintro e w10 ⟨g9, c9, rfl, hr9, hc9, hb'⟩
                have hr9h : Hid (Rd w10 (some ⟨g9, 0, none⟩) (xs.take L)) := hr9
                have hZ10 : Hid (Zs w.heap.size bb mb gm gi (L + 60) c1 g2 L c2 b xs ls w w10) := hZo.out.below hb'
                clear hb' hr9 hZo
                go_wp2_with fail
                refine (RO.out w10 g9 c9 hr9h.out hc9).mono ?_
                rintro e w11 ⟨rfl, hb'⟩
                have hZ11 : Hid (Zs w.heap.size bb mb gm gi (L + 60) c1 g2 L c2 b xs ls w w11) := hZ10.out.below hb'
                clear hb' hZ10 hr9h
                go_wp2_with fail
                refine (OP.out w11 hZ11.out).mono ?_
                rintro e w12 ⟨rfl, hb'⟩
                have hZ12 : Hid (Zs w.heap.size bb mb gm gi (L + 60) c1 g2 L c2 b xs ls w w12) := hZ11.out.below hb'
                clear hb' hZ11
                go_wp2_with fail
                refine (MC.out w12 hZ12.out.mq).mono ?_
                rintro e w13 ⟨a13, c13, rfl, hr', hb'⟩
                have hr13 : Hid (Rd w13 a13 ls) := hr'
                have hZ13 : Hid (Zs w.heap.size bb mb gm gi (L + 60) c1 g2 L c2 b xs ls w w13) := hZ12.out.below hb'
                clear hb' hr' hZ12
                have hrk : Hid (Rd w13 (some ⟨g2, 0, none⟩) ls) := by
                  obtain ⟨a, c, e, _, hr⟩ := hZ13.out.k2.nb
                  cases e
                  exact hr
                go_wp2_with fail
                refine (SC.out w13 _ _ _ _ hrk.out hr13.out).mono ?_
                rintro e w14 ⟨rfl, q14, rfl⟩
                have hZ14 : Hid (Zs w.heap.size bb mb gm gi (L + 60) c1 g2 L c2 b xs ls w (w13.drewN q14)) := hZ13.out.drewN q14
                clear hZ13 hrk hr13
                obtain ⟨w14, hw14⟩ : ∃ wz, w13.drewN q14 = wz := ⟨_, rfl⟩
                rw [hw14] at hZ14 ⊢
                clear hw14
                go_wp2_with fail
                refine (I2.out w14 hZ14.out.bok).mono ?_
                rintro e w15 ⟨a15, c15, rfl, hr', hb'⟩
                have hr15 : Hid (Rd w15 a15 ls) := hr'
                have hZ15 : Hid (Zs w.heap.size bb mb gm gi (L + 60) c1 g2 L c2 b xs ls w w15) := hZ14.out.below hb'
                clear hb' hr' hZ14
                go_wp2_with fail
                refine (MC.out w15 hZ15.out.mq).mono ?_
                rintro e w16 ⟨a16, c16, rfl, hr', hb'⟩
                have hr16 : Hid (Rd w16 a16 ls) := hr'
                have hr15' : Hid (Rd w16 a15 ls) := hr15.out.below hb' (Nat.le_refl _)
                have hZ16 : Hid (Zs w.heap.size bb mb gm gi (L + 60) c1 g2 L c2 b xs ls w w16) := hZ15.out.below hb'
                clear hb' hr' hZ15 hr15
                go_wp2_with fail
                refine (SC.out w16 _ _ _ _ hr15'.out hr16.out).mono ?_
                rintro e w17 ⟨rfl, q17, rfl⟩
                go_wp2_with fail
                go_ret
                exact ⟨rfl, below_drewN hZ16.out.bel _⟩

end Go.Proofs.Ytidmjojlhcgedaa
