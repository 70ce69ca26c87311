import Derived.Test.YtghfoppojdkhkaaGreatDoorShZ5
import Derived.Laws.MakeOwn
namespace Go.Proofs.YtghfoppojdkhkaaGreatDoor.Sha
open Go.RowKit
set_option maxRecDepth 100000

/-- These bytes can be read there. -/
def Rd (w : World) (ao : Option Addr) (l : List UInt8) : Prop :=
  l = [] ∨ ∃ g off : Nat, ao = some ⟨g, off, none⟩ ∧ g < w.heap.size ∧ ∀ j, j < l.length → w.cell? ⟨g, off + j, none⟩ = some (B (l.getD j 0))
/-- They don't lie in this block. -/
def Off (ao : Option Addr) (l : List UInt8) (b : Nat) : Prop := ∀ a, l ≠ [] → ao = some a → a.block ≠ b

theorem setCells_drewN {b : Nat} (q : Nat) : ∀ (xs : List Value) (o : Nat) (w : World), (w.drewN q).setCells b o xs = (w.setCells b o xs).drewN q
  | [], _, _ => rfl
  | v :: r, o, w => setCells_drewN q r (o + 1) (w.setCell ⟨b, o, none⟩ v)

theorem Cl.drewN {w : World} {b : Nat} {vs : List Value} (h : Cl w b vs) (q : Nat) : Cl (w.drewN q) b vs := h

theorem stV_setcount (h : Int) (ch : List Int) (ct ct' : Nat) (tl : List UInt8) (h8 : ch.length = 8) : (stV h ch ct tl).set 9 (.int .u64 (ct' : Int)) = stV h ch ct' tl := by
  unfold stV
  rw [List.set_cons_succ, List.set_append_right _ _ (by simp [h8])]
  simp [h8]

set_option maxRecDepth 100000 in
/-- A slice of bytes cut from its head. -/
theorem slice_low (g o len cap n : Nat) (h1 : n ≤ len) (h2 : len ≤ cap) : ∃ a2, (∀ W, (Instr.sliceAt 24 (.slice (some ⟨g, o, none⟩) len cap) (some (.int .i64 (n : Int))) none none).run Tryz.prog W = .ok (.slice a2 (len - n) (cap - n)) W) ∧ (n < len → a2 = some ⟨g, o + n, none⟩) := by
  have e0 : Tryz.prog.elem 24 = 5 := by kernel_rfl
  have e2 := run_size1 (P := Tryz.prog) (e := 5) (by kernel_rfl)
  refine ⟨if cap = n then some ⟨g, o, none⟩ else some ⟨g, o + n, none⟩, fun W => ?_, fun hn => ?_⟩
  · rw [run_sliceAt_slice _ _ _ _ _ _ Tryz.underlying24, run_slice_l W 24 (some ⟨g, o, none⟩) len cap Tryz.underlying24 .i64 (n : Int) (by omega) (by omega), e0, e2]
    show Result.ok (sliced _ _ _ _ 1) W = _
    unfold sliced
    simp only [Int.toNat_natCast, Nat.mul_one]
    congr 2
    split
    · rfl
    · simp [Addr.add_mid]
  · rw [if_neg (by omega)]

set_option maxRecDepth 100000 in
set_option maxHeartbeats 2000000 in
theorem write_any (b : Nat) (h : Int) (m x : List UInt8) (ao : Option Addr) (cap : Nat) (w : World) (H : Sta w b h m) (hh : isH h) (T : Tb w) (hb7 : 2 ≤ b) (hrd : Rd w ao x) (hoff : Off ao x b) (hcap : x.length ≤ cap) (hm : m.length ≤ 2305843009213693952) (hx : x.length ≤ 2305843009213693952) (_hcm : cap ≤ 9223372036854775807) :
    Calls Tryz.prog 77 #[.pointer (some ⟨b, 0, none⟩), .slice ao x.length cap] w fun e w' => e = .returned (.tuple #[]) ∧ Sta w' b h (m ++ x) ∧ But w w' b := by
  have g0 := stV_hash H
  have HH : Hid (Sta w b h m) := H
  have HT : Hid (Tb w) := T
  have hbp := blk_pos hh
  have CB := block_any h w
  obtain ⟨K, hK⟩ : ∃ K, blk h = K := ⟨_, rfl⟩
  rw [hK] at CB hbp
  have HK : Hid (True → blk h = K) := fun _ => hK
  have HR : Hid (∃ g off : Nat, (x ≠ [] → ao = some ⟨g, off, none⟩ ∧ g ≠ b ∧ g < w.heap.size) ∧ ∀ j, j < x.length → w.cell? ⟨g, off + j, none⟩ = some (B (x.getD j 0))) := by
    rcases hrd with rfl | ⟨g, off, e, hg, hc⟩
    · exact ⟨0, 0, fun hne => absurd rfl hne, fun j hj => by simp at hj⟩
    · exact ⟨g, off, fun hne => ⟨e, hoff _ hne e, hg⟩, hc⟩
  clear H T hK hrd hoff
  go_enter Tryz.func77, Tryz.ntmps77
  go_wp2_with fail
  refine CB.mono ?_
  rintro e w1 ⟨rfl, rfl⟩
  clear CB g0
  obtain ⟨g, off, hx1, hx2⟩ := HR.out
  have Hx1 : Hid (x ≠ [] → ao = some ⟨g, off, none⟩ ∧ g ≠ b ∧ g < w1.heap.size) := hx1
  have Hx2 : Hid (∀ j, j < x.length → w1.cell? ⟨g, off + j, none⟩ = some (B (x.getD j 0))) := hx2
  clear HR hx1 hx2
  rename World => w
  go_wp2
  go_loopw [1] (fun s ws => ∃ (k : Nat) (a : Option Addr), s = .slice a (x.length - k) (cap - k) ∧ k ≤ x.length ∧ (k < x.length → a = some ⟨g, off + k, none⟩) ∧ Hid (Sta ws b h (m ++ x.take k)) ∧ Hid (But w ws b)) (fun s _ => match s with | .slice _ n _ => n | _ => 0)
  case atStart => exact ⟨0, ao, rfl, by omega, fun h0 => (Hx1.out (fun e => by subst e; simp at h0)).1, by simpa using HH, But.refl _ _⟩
  case round =>
    obtain ⟨k, a, rfl, hk, ha, hst, hbut⟩ := hrel
    by_cases hlt : k < x.length
    · obtain rfl := ha hlt
      have hne : x ≠ [] := fun e => by subst e; simp at hlt
      obtain ⟨_, hgb, hgs⟩ := Hx1.out hne
      clear ha
      obtain ⟨mm, hmm⟩ : ∃ mm, mm = m ++ x.take k := ⟨_, rfl⟩
      have hml : mm.length = m.length + k := by rw [hmm]; simp; omega
      rw [← hmm] at hst
      obtain ⟨f, hf⟩ : ∃ f, mm.length % K = f := ⟨_, rfl⟩
      have hfK : f < K := by rw [← hf]; exact Nat.mod_lt _ hbp.1
      obtain ⟨n, hn⟩ : ∃ n, n = min (x.length - k) (K - f) := ⟨_, rfl⟩
      have hn1 : 1 ≤ n ∧ n ≤ x.length - k ∧ n ≤ K - f := by omega
      obtain ⟨ys, hys⟩ : ∃ ys, ys = (x.drop k).take n := ⟨_, rfl⟩
      have hyl : ys.length = n := by rw [hys]; simp; omega
      have hsl := tail_slice b f K (wr.drewN 2) (f : Int) (K : Int) rfl rfl (by omega) (by omega) (by omega)
      have hS := hst.out
      unfold Sta at hS
      have hcl8 := cF_length h mm
      have htl := tF_length hh mm
      have hcp : ∀ q, (Builtin.copy_ #[24, 24] 3 #[.slice (some ⟨b, 10 + f, none⟩) (K - f) (128 - f), .slice (some ⟨g, off + k, none⟩) (x.length - k) (cap - k)]).run Tryz.prog (wr.drewN q) = .ok (goInt n) ((wr.setCells b (10 + f) (ys.map B)).drewN q) := fun q => by
        have h1 := run_copy_cells (P := Tryz.prog) (wr.drewN q) 24 24 3 5 b (10 + f) (K - f) (128 - f) ⟨g, off + k, none⟩ (x.length - k) (cap - k) (ys.map B) (by kernel_rfl) (by kernel_rfl) (by
            rw [List.length_map, hyl]; exact hn) (fun j v hj => by
            obtain ⟨hj1, hj2⟩ := List.getElem?_eq_some_iff.1 hj
            have hj3 : j < n := by rw [List.length_map, hyl] at hj1; exact hj1
            have hq := Hx2.out (k + j) (by omega)
            have e2 : (ys.map B)[j] = B (x.getD (k + j) 0) := by
              rw [List.getElem_map]
              congr 1
              subst hys
              rw [List.getElem_take, List.getElem_drop]
              rw [List.getD_eq_getElem?_getD, List.getElem?_eq_getElem (by omega)]
              rfl
            rw [← hj2, e2, Addr.add_mid, Nat.add_assoc]
            exact cell_but hq fun hg2 => hbut.out.block g hg2 hgb) (fun j hj => by
            rw [List.length_map, hyl] at hj
            have := hS.cell (10 + f + j) (by rw [stV_length, hcl8, htl]; omega)
            show (wr.cell? _).isSome = true
            rw [this]; rfl) (fun j _ => hS.frozen _) (oneB ys)
        rw [List.length_map, hyl, setCells_drewN] at h1
        exact h1
      have CF : Hid (∀ q, Calls Tryz.prog 96 #[.pointer (some ⟨b, 0, none⟩)] (wr.drewN q) fun e w' => e = .returned (.int .i64 (f : Int)) ∧ w' = (wr.drewN q).drewN 1) := fun q => by
        have := filled_any b h (cF h mm) mm.length (tF h mm) (wr.drewN q) (hS.drewN q) hcl8 (by rw [HK.out trivial]; exact hbp.1) (by omega)
        rw [HK.out trivial, hf] at this
        exact this
      have HS : Hid (Cl wr b (stV h (cF h mm) mm.length (tF h mm))) := hS
      have Hys : Hid (True → ys = (x.drop k).take n ∧ mm = m ++ x.take k ∧ mm.length % K = f ∧ n = min (x.length - k) (K - f)) := fun _ => ⟨hys, hmm, hf, hn⟩
      have hyl2 : ys.length ≤ n ∧ n ≤ ys.length := by omega
      have hml2 : mm.length ≤ m.length + k ∧ m.length + k ≤ mm.length := by omega
      have hsl' : ∀ q, (Instr.sliceAt 123 (.pointer (some ⟨b, 10, none⟩)) (some (.int .i64 (f : Int))) (some (.int .i64 (K : Int))) none).run Tryz.prog (wr.drewN q) = .ok (.slice (some ⟨b, 10 + f, none⟩) (K - f) (128 - f)) (wr.drewN q) := fun q => tail_slice b f K (wr.drewN q) (f : Int) (K : Int) rfl rfl (by omega) (by omega) (by omega)
      clear hys hmm hf hn hyl hml hcl8 htl hS hsl hne hst
      rename ao = _ => hao
      clear hao
      go_wp2
      go_region_with (go_at_call 96; refine (CF.out _).mono ?_; rintro e w4 ⟨rfl, rfl⟩)
      obtain ⟨tl, htl⟩ : ∃ tl, tl = (tF h mm).take f ++ ys ++ (tF h mm).drop (f + ys.length) := ⟨_, rfl⟩
      have HC2 : Hid (Cl (wr.setCells b (10 + f) (ys.map B)) b (stV h (cF h mm) mm.length tl)) := by
        have h1 := Cl.cells (ys.map B) (10 + f) wr _ HS.out (by rw [stV_length, cF_length, tF_length hh, List.length_map]; omega)
        rw [spl_tail h (cF h mm) mm.length (tF h mm) (cF_length h mm) f ys, ← htl] at h1
        exact h1
      have HB2 : Hid (But w (wr.setCells b (10 + f) (ys.map B)) b) := But.cells _ _ _ _ hbut.out
      have HTL : Hid (True → tl = (tF h mm).take f ++ ys ++ (tF h mm).drop (f + ys.length)) := fun _ => htl
      have htl2 : tl.length = 128 := by rw [htl]; have := tF_length hh mm; simp; omega
      clear htl hcp hsl' HS CF hbut HH
      generalize wr.setCells b (10 + f) (ys.map B) = wq at *
      have g9 := stV_count HC2.out (cF_length h mm)
      have f9 := HC2.out.frozen 9
      have hwc : IntKind.u64.wrap ((mm.length : Int) + (n : Int)) = ((mm.length + n : Nat) : Int) := by rw [IntKind.wrap_u64]; omega
      obtain ⟨a2, hs3, ha2⟩ := slice_low g (off + k) (x.length - k) (cap - k) n (by omega) (by omega)
      go_wp2_with fail
      have HC3 : Hid (Cl ((wq.drewN 2).setCell ⟨b, 9, none⟩ (.int .u64 ((mm.length : Int) + (n : Int)))) b (stV h (cF h mm) (mm.length + n) tl)) := by
        have h1 := (HC2.out.drewN 2).set 9 (.int .u64 ((mm.length + n : Nat) : Int))
        rw [stV_setcount _ _ _ _ _ (cF_length h mm)] at h1
        rw [show (mm.length : Int) + (n : Int) = ((mm.length + n : Nat) : Int) by omega]
        exact h1
      have HB3 : Hid (But w ((wq.drewN 2).setCell ⟨b, 9, none⟩ (.int .u64 ((mm.length : Int) + (n : Int)))) b) := (HB2.out.drewN 2).set _ _
      generalize (wq.drewN 2).setCell ⟨b, 9, none⟩ (.int .u64 ((mm.length : Int) + (n : Int))) = we at *
      have CF2 := filled_any b h (cF h mm) (mm.length + n) tl we HC3.out (cF_length h mm) (by rw [HK.out trivial]; exact hbp.1) (by omega)
      rw [HK.out trivial] at CF2
      clear HC2 HB2 g9 f9 hwc hs3
      have hyn : ys.length = n := by omega
      have Hnext : Hid (True → m ++ x.take (k + n) = mm ++ ys) := fun _ => by
        obtain ⟨e1, e2, _, _⟩ := Hys.out trivial
        rw [e1, e2, List.append_assoc, List.take_add]
      by_cases hfull : f + n < K
      · have hmod := div_less mm.length n K hbp.1 (by rw [(Hys.out trivial).2.2.1]; exact hfull)
        rw [hmod.2, (Hys.out trivial).2.2.1] at CF2
        clear hmod
        have hfn : ((f + n : Nat) : Int) ≠ 0 := by omega
        refine CF2.mono ?_
        rintro e w5 ⟨rfl, rfl⟩
        clear CF2
        go_wp2
        refine ⟨⟨k + n, a2, by rw [Nat.sub_sub, Nat.sub_sub], by omega, fun h0 => by rw [ha2 (by omega), Nat.add_assoc], ?_, HB3.out.drewN 1⟩, ?_⟩
        · have h1 := app_less h mm ys (blk_pos hh) (by rw [HK.out trivial, (Hys.out trivial).2.2.1, hyn]; exact hfull)
          rw [HK.out trivial, (Hys.out trivial).2.2.1, ← HTL.out trivial] at h1
          rw [Hnext.out trivial]
          show Sta _ _ _ _
          unfold Sta
          rw [h1.1, h1.2, List.length_append, hyn]
          exact HC3.out.drewN 1
        · show x.length - k - n < x.length - k
          omega
      · have hfull2 : f + n = K := by omega
        have hmod := div_full mm.length n K hbp.1 (by rw [(Hys.out trivial).2.2.1]; exact hfull2)
        rw [hmod.2] at CF2
        clear hmod
        refine CF2.mono ?_
        rintro e w5 ⟨rfl, rfl⟩
        clear CF2
        go_wp2_with fail
        refine (mix_any b h (cF h mm) (mm.length + n) tl (we.drewN 1) (HC3.out.drewN 1) (cF_length h mm) htl2 ((HT.out.but HB3.out hb7).drewN 1) hb7).mono ?_
        rintro e w6 ⟨rfl, hc6, hb6⟩
        have HC6 : Hid (Cl w6 b (stV h (mixF h (cF h mm) tl) (mm.length + n) Z128)) := hc6
        have HB6 : Hid (But w w6 b) := (HB3.out.drewN 1).trans hb6
        clear hc6 hb6
        go_wp2
        refine ⟨⟨k + n, a2, by rw [Nat.sub_sub, Nat.sub_sub], by omega, fun h0 => by rw [ha2 (by omega), Nat.add_assoc], ?_, HB6⟩, ?_⟩
        · have h1 := app_full h mm ys (blk_pos hh) (by rw [HK.out trivial, (Hys.out trivial).2.2.1, hyn]; exact hfull2)
          rw [HK.out trivial, (Hys.out trivial).2.2.1, ← HTL.out trivial] at h1
          rw [Hnext.out trivial]
          show Sta _ _ _ _
          unfold Sta
          rw [h1.1, h1.2, List.length_append, hyn]
          exact HC6.out
        · show x.length - k - n < x.length - k
          omega
    · obtain rfl : k = x.length := by omega
      go_wp2
      go_end0
      refine ⟨rfl, ?_, hbut.out⟩
      have := hst.out
      rw [List.take_length] at this
      exact this
end Go.Proofs.YtghfoppojdkhkaaGreatDoor.Sha
namespace Go.Proofs.YtghfoppojdkhkaaGreatDoor.Sha
open Go.RowKit
set_option maxRecDepth 100000

/-- The last block: how many bits there were, in its last eight bytes. -/
def lastF (K : Nat) (tl : List UInt8) (ct : Nat) : List UInt8 := tl.take (K - 8) ++ tobe 8 (ct * 8) ++ tl.drop (K - 8 + (tobe 8 (ct * 8)).length)
/-- The chain behind the filling. -/
def finF (h : Int) (m : List UInt8) : List Int :=
  if blk h - blk h / 8 ≤ m.length % blk h then mixF h (mixF h (cF h m) ((tF h m).set (m.length % blk h) 128)) (lastF (blk h) Z128 m.length)
  else mixF h (cF h m) (lastF (blk h) ((tF h m).set (m.length % blk h) 128) m.length)

theorem lastF_length (K : Nat) (tl : List UInt8) (ct : Nat) (h1 : tl.length = 128) (h2 : 8 ≤ K) (h3 : K ≤ 128) : (lastF K tl ct).length = 128 := by
  unfold lastF; simp [tobe_length]; omega
theorem Z128_length : Z128.length = 128 := by simp [Z128]
theorem stV_settail1 (h : Int) (ch : List Int) (ct : Nat) (tl : List UInt8) (h8 : ch.length = 8) (f : Nat) (x : UInt8) : (stV h ch ct tl).set (10 + f) (B x) = stV h ch ct (tl.set f x) := by
  unfold stV
  rw [show 10 + f = (9 + f) + 1 by omega, List.set_cons_succ, List.set_append_right _ _ (by simp [h8]; omega)]
  simp only [List.length_map, h8, show 9 + f - 8 = f + 1 by omega, List.set_cons_succ, List.map_set]
theorem stV_put {w : World} {b : Nat} {h : Int} {ch : List Int} {ct : Nat} {tl : List UInt8} (K : Nat) (h8 : ch.length = 8) (hK : 8 ≤ K) (N : Nat) (hN : N = ct * 8) (H : Cl w b (spl (stV h ch ct tl) (2 + K) ((tobe 8 N).map B))) : Cl w b (stV h ch ct (lastF K tl ct)) := by
  subst hN
  rw [show 2 + K = 10 + (K - 8) by omega, spl_tail h ch ct tl h8] at H
  exact H

set_option maxRecDepth 100000 in
set_option maxHeartbeats 2000000 in
theorem finish_64 (b : Nat) (h : Int) (m : List UInt8) (w : World) (H : Sta w b h m) (hh : isH h) (T : Tb w) (hb7 : 2 ≤ b) (hm : m.length < 2305843009213693952) (hK : blk h = 64) :
    Calls Tryz.prog 98 #[.pointer (some ⟨b, 0, none⟩)] w fun e w' => e = .returned (.tuple #[]) ∧ Cl w' b (stV h (finF h m) m.length Z128) ∧ But w w' b := by
  have g0 := stV_hash H
  have HH : Hid (Sta w b h m) := H
  have HT : Hid (Tb w) := T
  have HK : Hid (True → blk h = 64) := fun _ => hK
  have CB := block_any h w
  rw [hK] at CB
  have CF := filled_any b h (cF h m) m.length (tF h m) w H (cF_length h m) (by omega) (by omega)
  rw [hK] at CF
  obtain ⟨f, hf⟩ : ∃ f, m.length % 64 = f := ⟨_, rfl⟩
  have hf1 : f < 64 := by omega
  rw [hf] at CF
  have Hf : Hid (True → m.length % 64 = f) := fun _ => hf
  clear H T hK hf
  have gf := HH.out.frozen (10 + f)
  have gt := stV_tail HH.out (cF_length h m) f (by rw [tF_length hh]; omega)
  generalize (tF h m)[f]'_ = old at gt
  go_enter Tryz.func98, Tryz.ntmps98
  go_wp2_with fail
  refine CB.mono ?_
  rintro e w1 ⟨rfl, rfl⟩
  go_wp2_with fail
  refine CF.mono ?_
  rintro e w2 ⟨rfl, rfl⟩
  clear CB CF
  rename World => w
  obtain ⟨t1, ht1⟩ : ∃ t1, t1 = (tF h m).set f 128 := ⟨_, rfl⟩
  have HC1 : Hid (Cl ((w.drewN 1).setCell ⟨b, 10 + f, none⟩ (.int .u8 128)) b (stV h (cF h m) m.length t1)) := by
    have h1 := (Cl.drewN HH.out 1).set (10 + f) (B 128)
    rw [stV_settail1 _ _ _ _ (cF_length h m), ← ht1] at h1
    exact h1
  have HB1 : Hid (But w ((w.drewN 1).setCell ⟨b, 10 + f, none⟩ (.int .u8 128)) b) := ((But.refl w b).drewN 1).set _ _
  have ht1l : t1.length = 128 := by rw [ht1, List.length_set, tF_length hh]
  have Ht1 : Hid (True → t1 = (tF h m).set f 128) := fun _ => ht1
  clear ht1
  by_cases hc : 56 ≤ f
  · have Hfin : Hid (True → finF h m = mixF h (mixF h (cF h m) t1) (lastF 64 Z128 m.length)) := fun _ => by
      unfold finF
      rw [HK.out trivial, Hf.out trivial, if_pos (by omega), Ht1.out trivial]
    go_wp2_with fail
    clear g0 gf gt
    generalize (w.drewN 1).setCell ⟨b, 10 + f, none⟩ (.int .u8 128) = wa at *
    refine (mix_any b h (cF h m) m.length t1 wa HC1.out (cF_length h m) ht1l (HT.out.but HB1.out hb7) hb7).mono ?_
    rintro e w3 ⟨rfl, hc3, hb3⟩
    have HC3 : Hid (Cl w3 b (stV h (mixF h (cF h m) t1) m.length Z128)) := hc3
    have HB3 : Hid (But w w3 b) := HB1.out.trans hb3
    have hl3 := mixF_length h (cF h m) t1 (cF_length h m)
    generalize mixF h (cF h m) t1 = c3 at *
    have hz3 := Z128_length
    generalize Z128 = z3 at HC3 hz3 Hfin
    have g9 := stV_count HC3.out hl3
    have hsl : ∀ q, (Instr.sliceAt 123 (.pointer (some ⟨b, 10, none⟩)) (some (.int .i64 56)) (some (.int .i64 64)) none).run Tryz.prog (w3.drewN q) = .ok (.slice (some ⟨b, 66, none⟩) 8 (72)) (w3.drewN q) := fun q => tail_slice b 56 64 (w3.drewN q) 56 64 rfl rfl (by omega) (by omega) (by omega)
    have hwm : IntKind.u64.wrap ((m.length : Int) * 8) = ((m.length * 8 : Nat) : Int) := by rw [IntKind.wrap_u64]; omega
    clear hc3 hb3 HC1 HB1 hc
    go_wp2
    refine wp_region_tail 12 (by kernel_rfl) (by kernel_rfl) ?_
    simp only [List.take_succ_cons, List.take_zero, List.drop_succ_cons, List.drop_zero]
    repeat (first | go_big_quiet_skip | (go_big_quiet_want; go_big_quiet_op; go_big_quiet_on))
    refine wpQuiet_nil ?_
    go_wp2_with fail
    have P := put_any b 66 8 72 (m.length * 8) (stV h c3 m.length z3) (w3.drewN 1) (HC3.out.drewN 1) (by rw [stV_length, hl3, hz3]; omega) (by rw [stV_length, hl3, hz3]; omega) (by omega) (by omega)
    rw [show ((m.length * 8 : Nat) : Int) = (m.length : Int) * 8 by omega] at P
    refine P.mono ?_
    rintro e w4 ⟨rfl, hc4, hb4, _⟩
    clear P hsl g9 hwm
    have HC4 : Hid (Cl w4 b (stV h c3 m.length (lastF 64 z3 m.length))) := stV_put 64 hl3 (by omega) _ rfl hc4
    have HB4 : Hid (But w w4 b) := (HB3.out.drewN 1).trans hb4
    clear hc4 hb4
    go_wp2_with fail
    refine (mix_any b h c3 m.length (lastF 64 z3 m.length) w4 HC4.out hl3 (lastF_length 64 z3 m.length hz3 (by omega) (by omega)) (HT.out.but HB4.out hb7) hb7).mono ?_
    rintro e w5 ⟨rfl, hc5, hb5⟩
    have HC5 : Hid (Cl w5 b (stV h (mixF h c3 (lastF 64 z3 m.length)) m.length Z128)) := hc5
    have HB5 : Hid (But w w5 b) := HB4.out.trans hb5
    clear hc5 hb5
    go_wp2
    go_end0
    refine ⟨rfl, ?_, HB5.out⟩
    rw [Hfin.out trivial]
    exact HC5.out
  · have Hfin : Hid (True → finF h m = mixF h (cF h m) (lastF 64 t1 m.length)) := fun _ => by
      unfold finF
      rw [HK.out trivial, Hf.out trivial, if_neg (by omega), Ht1.out trivial]
    have HC3 := HC1
    have HB3 := HB1
    have hl3 := cF_length h m
    have hz3 := ht1l
    clear HC1 HB1
    generalize cF h m = c3 at *
    generalize t1 = z3 at *
    go_wp2
    clear g0 gf gt
    generalize (w.drewN 1).setCell ⟨b, 10 + f, none⟩ (.int .u8 128) = w3 at *
    have hc3 := 0
    have hb3 := 0
    have HC1 := 0
    have HB1 := 0
    have g9 := stV_count HC3.out hl3
    have hsl : ∀ q, (Instr.sliceAt 123 (.pointer (some ⟨b, 10, none⟩)) (some (.int .i64 56)) (some (.int .i64 64)) none).run Tryz.prog (w3.drewN q) = .ok (.slice (some ⟨b, 66, none⟩) 8 (72)) (w3.drewN q) := fun q => tail_slice b 56 64 (w3.drewN q) 56 64 rfl rfl (by omega) (by omega) (by omega)
    have hwm : IntKind.u64.wrap ((m.length : Int) * 8) = ((m.length * 8 : Nat) : Int) := by rw [IntKind.wrap_u64]; omega
    clear hc3 hb3 HC1 HB1 hc
    go_wp2
    refine wp_region_tail 12 (by kernel_rfl) (by kernel_rfl) ?_
    simp only [List.take_succ_cons, List.take_zero, List.drop_succ_cons, List.drop_zero]
    repeat (first | go_big_quiet_skip | (go_big_quiet_want; go_big_quiet_op; go_big_quiet_on))
    refine wpQuiet_nil ?_
    go_wp2_with fail
    have P := put_any b 66 8 72 (m.length * 8) (stV h c3 m.length z3) (w3.drewN 1) (HC3.out.drewN 1) (by rw [stV_length, hl3, hz3]; omega) (by rw [stV_length, hl3, hz3]; omega) (by omega) (by omega)
    rw [show ((m.length * 8 : Nat) : Int) = (m.length : Int) * 8 by omega] at P
    refine P.mono ?_
    rintro e w4 ⟨rfl, hc4, hb4, _⟩
    clear P hsl g9 hwm
    have HC4 : Hid (Cl w4 b (stV h c3 m.length (lastF 64 z3 m.length))) := stV_put 64 hl3 (by omega) _ rfl hc4
    have HB4 : Hid (But w w4 b) := (HB3.out.drewN 1).trans hb4
    clear hc4 hb4
    go_wp2_with fail
    refine (mix_any b h c3 m.length (lastF 64 z3 m.length) w4 HC4.out hl3 (lastF_length 64 z3 m.length hz3 (by omega) (by omega)) (HT.out.but HB4.out hb7) hb7).mono ?_
    rintro e w5 ⟨rfl, hc5, hb5⟩
    have HC5 : Hid (Cl w5 b (stV h (mixF h c3 (lastF 64 z3 m.length)) m.length Z128)) := hc5
    have HB5 : Hid (But w w5 b) := HB4.out.trans hb5
    clear hc5 hb5
    go_wp2
    go_end0
    refine ⟨rfl, ?_, HB5.out⟩
    rw [Hfin.out trivial]
    exact HC5.out

set_option maxRecDepth 100000 in
set_option maxHeartbeats 2000000 in
theorem finish_128 (b : Nat) (h : Int) (m : List UInt8) (w : World) (H : Sta w b h m) (hh : isH h) (T : Tb w) (hb7 : 2 ≤ b) (hm : m.length < 2305843009213693952) (hK : blk h = 128) :
    Calls Tryz.prog 98 #[.pointer (some ⟨b, 0, none⟩)] w fun e w' => e = .returned (.tuple #[]) ∧ Cl w' b (stV h (finF h m) m.length Z128) ∧ But w w' b := by
  have g0 := stV_hash H
  have HH : Hid (Sta w b h m) := H
  have HT : Hid (Tb w) := T
  have HK : Hid (True → blk h = 128) := fun _ => hK
  have CB := block_any h w
  rw [hK] at CB
  have CF := filled_any b h (cF h m) m.length (tF h m) w H (cF_length h m) (by omega) (by omega)
  rw [hK] at CF
  obtain ⟨f, hf⟩ : ∃ f, m.length % 128 = f := ⟨_, rfl⟩
  have hf1 : f < 128 := by omega
  rw [hf] at CF
  have Hf : Hid (True → m.length % 128 = f) := fun _ => hf
  clear H T hK hf
  have gf := HH.out.frozen (10 + f)
  have gt := stV_tail HH.out (cF_length h m) f (by rw [tF_length hh]; omega)
  generalize (tF h m)[f]'_ = old at gt
  go_enter Tryz.func98, Tryz.ntmps98
  go_wp2_with fail
  refine CB.mono ?_
  rintro e w1 ⟨rfl, rfl⟩
  go_wp2_with fail
  refine CF.mono ?_
  rintro e w2 ⟨rfl, rfl⟩
  clear CB CF
  rename World => w
  obtain ⟨t1, ht1⟩ : ∃ t1, t1 = (tF h m).set f 128 := ⟨_, rfl⟩
  have HC1 : Hid (Cl ((w.drewN 1).setCell ⟨b, 10 + f, none⟩ (.int .u8 128)) b (stV h (cF h m) m.length t1)) := by
    have h1 := (Cl.drewN HH.out 1).set (10 + f) (B 128)
    rw [stV_settail1 _ _ _ _ (cF_length h m), ← ht1] at h1
    exact h1
  have HB1 : Hid (But w ((w.drewN 1).setCell ⟨b, 10 + f, none⟩ (.int .u8 128)) b) := ((But.refl w b).drewN 1).set _ _
  have ht1l : t1.length = 128 := by rw [ht1, List.length_set, tF_length hh]
  have Ht1 : Hid (True → t1 = (tF h m).set f 128) := fun _ => ht1
  clear ht1
  by_cases hc : 112 ≤ f
  · have Hfin : Hid (True → finF h m = mixF h (mixF h (cF h m) t1) (lastF 128 Z128 m.length)) := fun _ => by
      unfold finF
      rw [HK.out trivial, Hf.out trivial, if_pos (by omega), Ht1.out trivial]
    go_wp2_with fail
    clear g0 gf gt
    generalize (w.drewN 1).setCell ⟨b, 10 + f, none⟩ (.int .u8 128) = wa at *
    refine (mix_any b h (cF h m) m.length t1 wa HC1.out (cF_length h m) ht1l (HT.out.but HB1.out hb7) hb7).mono ?_
    rintro e w3 ⟨rfl, hc3, hb3⟩
    have HC3 : Hid (Cl w3 b (stV h (mixF h (cF h m) t1) m.length Z128)) := hc3
    have HB3 : Hid (But w w3 b) := HB1.out.trans hb3
    have hl3 := mixF_length h (cF h m) t1 (cF_length h m)
    generalize mixF h (cF h m) t1 = c3 at *
    have hz3 := Z128_length
    generalize Z128 = z3 at HC3 hz3 Hfin
    have g9 := stV_count HC3.out hl3
    have hsl : ∀ q, (Instr.sliceAt 123 (.pointer (some ⟨b, 10, none⟩)) (some (.int .i64 120)) (some (.int .i64 128)) none).run Tryz.prog (w3.drewN q) = .ok (.slice (some ⟨b, 130, none⟩) 8 (8)) (w3.drewN q) := fun q => tail_slice b 120 128 (w3.drewN q) 120 128 rfl rfl (by omega) (by omega) (by omega)
    have hwm : IntKind.u64.wrap ((m.length : Int) * 8) = ((m.length * 8 : Nat) : Int) := by rw [IntKind.wrap_u64]; omega
    clear hc3 hb3 HC1 HB1 hc
    go_wp2
    refine wp_region_tail 12 (by kernel_rfl) (by kernel_rfl) ?_
    simp only [List.take_succ_cons, List.take_zero, List.drop_succ_cons, List.drop_zero]
    repeat (first | go_big_quiet_skip | (go_big_quiet_want; go_big_quiet_op; go_big_quiet_on))
    refine wpQuiet_nil ?_
    go_wp2_with fail
    have P := put_any b 130 8 8 (m.length * 8) (stV h c3 m.length z3) (w3.drewN 1) (HC3.out.drewN 1) (by rw [stV_length, hl3, hz3]; omega) (by rw [stV_length, hl3, hz3]; omega) (by omega) (by omega)
    rw [show ((m.length * 8 : Nat) : Int) = (m.length : Int) * 8 by omega] at P
    refine P.mono ?_
    rintro e w4 ⟨rfl, hc4, hb4, _⟩
    clear P hsl g9 hwm
    have HC4 : Hid (Cl w4 b (stV h c3 m.length (lastF 128 z3 m.length))) := stV_put 128 hl3 (by omega) _ rfl hc4
    have HB4 : Hid (But w w4 b) := (HB3.out.drewN 1).trans hb4
    clear hc4 hb4
    go_wp2_with fail
    refine (mix_any b h c3 m.length (lastF 128 z3 m.length) w4 HC4.out hl3 (lastF_length 128 z3 m.length hz3 (by omega) (by omega)) (HT.out.but HB4.out hb7) hb7).mono ?_
    rintro e w5 ⟨rfl, hc5, hb5⟩
    have HC5 : Hid (Cl w5 b (stV h (mixF h c3 (lastF 128 z3 m.length)) m.length Z128)) := hc5
    have HB5 : Hid (But w w5 b) := HB4.out.trans hb5
    clear hc5 hb5
    go_wp2
    go_end0
    refine ⟨rfl, ?_, HB5.out⟩
    rw [Hfin.out trivial]
    exact HC5.out
  · have Hfin : Hid (True → finF h m = mixF h (cF h m) (lastF 128 t1 m.length)) := fun _ => by
      unfold finF
      rw [HK.out trivial, Hf.out trivial, if_neg (by omega), Ht1.out trivial]
    have HC3 := HC1
    have HB3 := HB1
    have hl3 := cF_length h m
    have hz3 := ht1l
    clear HC1 HB1
    generalize cF h m = c3 at *
    generalize t1 = z3 at *
    go_wp2
    clear g0 gf gt
    generalize (w.drewN 1).setCell ⟨b, 10 + f, none⟩ (.int .u8 128) = w3 at *
    have hc3 := 0
    have hb3 := 0
    have HC1 := 0
    have HB1 := 0
    have g9 := stV_count HC3.out hl3
    have hsl : ∀ q, (Instr.sliceAt 123 (.pointer (some ⟨b, 10, none⟩)) (some (.int .i64 120)) (some (.int .i64 128)) none).run Tryz.prog (w3.drewN q) = .ok (.slice (some ⟨b, 130, none⟩) 8 (8)) (w3.drewN q) := fun q => tail_slice b 120 128 (w3.drewN q) 120 128 rfl rfl (by omega) (by omega) (by omega)
    have hwm : IntKind.u64.wrap ((m.length : Int) * 8) = ((m.length * 8 : Nat) : Int) := by rw [IntKind.wrap_u64]; omega
    clear hc3 hb3 HC1 HB1 hc
    go_wp2
    refine wp_region_tail 12 (by kernel_rfl) (by kernel_rfl) ?_
    simp only [List.take_succ_cons, List.take_zero, List.drop_succ_cons, List.drop_zero]
    repeat (first | go_big_quiet_skip | (go_big_quiet_want; go_big_quiet_op; go_big_quiet_on))
    refine wpQuiet_nil ?_
    go_wp2_with fail
    have P := put_any b 130 8 8 (m.length * 8) (stV h c3 m.length z3) (w3.drewN 1) (HC3.out.drewN 1) (by rw [stV_length, hl3, hz3]; omega) (by rw [stV_length, hl3, hz3]; omega) (by omega) (by omega)
    rw [show ((m.length * 8 : Nat) : Int) = (m.length : Int) * 8 by omega] at P
    refine P.mono ?_
    rintro e w4 ⟨rfl, hc4, hb4, _⟩
    clear P hsl g9 hwm
    have HC4 : Hid (Cl w4 b (stV h c3 m.length (lastF 128 z3 m.length))) := stV_put 128 hl3 (by omega) _ rfl hc4
    have HB4 : Hid (But w w4 b) := (HB3.out.drewN 1).trans hb4
    clear hc4 hb4
    go_wp2_with fail
    refine (mix_any b h c3 m.length (lastF 128 z3 m.length) w4 HC4.out hl3 (lastF_length 128 z3 m.length hz3 (by omega) (by omega)) (HT.out.but HB4.out hb7) hb7).mono ?_
    rintro e w5 ⟨rfl, hc5, hb5⟩
    have HC5 : Hid (Cl w5 b (stV h (mixF h c3 (lastF 128 z3 m.length)) m.length Z128)) := hc5
    have HB5 : Hid (But w w5 b) := HB4.out.trans hb5
    clear hc5 hb5
    go_wp2
    go_end0
    refine ⟨rfl, ?_, HB5.out⟩
    rw [Hfin.out trivial]
    exact HC5.out

theorem finish_any (b : Nat) (h : Int) (m : List UInt8) (w : World) (H : Sta w b h m) (hh : isH h) (T : Tb w) (hb7 : 2 ≤ b) (hm : m.length < 2305843009213693952) :
    Calls Tryz.prog 98 #[.pointer (some ⟨b, 0, none⟩)] w fun e w' => e = .returned (.tuple #[]) ∧ Cl w' b (stV h (finF h m) m.length Z128) ∧ But w w' b := by
  rcases hh with rfl | rfl | rfl
  · exact finish_64 b 1 m w H (.inl rfl) T hb7 hm rfl
  · exact finish_128 b 2 m w H (.inr (.inl rfl)) T hb7 hm rfl
  · exact finish_128 b 3 m w H (.inr (.inr rfl)) T hb7 hm rfl

end Go.Proofs.YtghfoppojdkhkaaGreatDoor.Sha
namespace Go.Proofs.YtghfoppojdkhkaaGreatDoor.Sha
open Go.RowKit
set_option maxRecDepth 100000

/-- The first n words of a chain as bytes, each of w. -/
def outF (w n : Nat) (ch : List Int) : List UInt8 := (List.range n).flatMap fun i => tobe w (ch.getD i 0).toNat
/-- The sum. -/
def sumF (h : Int) (m : List UInt8) : List UInt8 := if h = 1 then outF 4 8 (finF h m) else if h = 2 then outF 8 6 (finF h m) else if h = 3 then outF 8 8 (finF h m) else []

theorem outF_succ (w n : Nat) (ch : List Int) : outF w (n + 1) ch = outF w n ch ++ tobe w (ch.getD n 0).toNat := by simp [outF, List.range_succ]
theorem outF_length (w n : Nat) (ch : List Int) : (outF w n ch).length = w * n := by
  induction n with
  | zero => rfl
  | succ n ih => rw [outF_succ, List.length_append, ih, tobe_length, Nat.mul_succ]
theorem sumF_length (h : Int) (m : List UInt8) : (sumF h m).length = siz h := by
  unfold sumF siz
  (repeat' split) <;> simp [outF_length]

theorem zip_bd (f : Int → Int → Int) (hf : ∀ x y, 0 ≤ f x y ∧ f x y < 18446744073709551616) (a b : List Int) (k : Nat) : 0 ≤ (List.zipWith f a b).getD k 0 ∧ (List.zipWith f a b).getD k 0 < 18446744073709551616 := by
  rw [List.getD_eq_getElem?_getD, List.getElem?_zipWith]
  cases a[k]? <;> cases b[k]? <;> simp [hf]
theorem mixF_bd (h : Int) (ch : List Int) (tl : List UInt8) (k : Nat) : 0 ≤ (mixF h ch tl).getD k 0 ∧ (mixF h ch tl).getD k 0 < 18446744073709551616 := by
  unfold mixF
  split
  · unfold mixN; exact zip_bd _ (fun x y => by omega) _ _ _
  · unfold mixW; exact zip_bd _ (fun x y => by omega) _ _ _
theorem finF_bd (h : Int) (m : List UInt8) (k : Nat) : 0 ≤ (finF h m).getD k 0 ∧ (finF h m).getD k 0 < 18446744073709551616 := by
  unfold finF
  split <;> exact mixF_bd _ _ _ _
theorem finF_length (h : Int) (m : List UInt8) : (finF h m).length = 8 := by
  unfold finF
  split
  · exact mixF_length _ _ _ (mixF_length _ _ _ (cF_length h m))
  · exact mixF_length _ _ _ (cF_length h m)

theorem spl_out (w n k N : Nat) (ch : List Int) (_h : w * k + w ≤ n) :
    spl ((outF w k ch ++ List.replicate (n - w * k) 0).map B) (w * k) ((tobe w N).map B) = (outF w k ch ++ tobe w N ++ List.replicate (n - (w * k + w)) 0).map B := by
  unfold spl
  rw [← List.map_take, ← List.map_drop, List.take_append_of_le_length (by rw [outF_length]; omega), List.take_of_length_le (by rw [outF_length]; omega), List.length_map, tobe_length, List.drop_append, List.drop_of_length_le (by rw [outF_length]; omega), outF_length, show w * k + w - w * k = w by omega, List.drop_replicate]
  simp
  omega

theorem alloc_bl (w : World) (vs : List Value) (t : TypeId) : Bl t (w.alloc (.cells vs.toArray t)) w.heap.size vs := by unfold Bl World.alloc; simp

/-- New bytes, all nought. -/
theorem made (w : World) (n : Nat) (hn : n ≤ 140737488355328) : ∃ wm, (Instr.makeSlice 24 (.int .i64 (n : Int)) (.int .i64 (n : Int))).run Tryz.prog w = .ok (.slice (some ⟨w.heap.size, 0, none⟩) n n) wm ∧ Bl 5 wm w.heap.size ((List.replicate n (0 : UInt8)).map B) ∧ Below w.heap.size w wm := by
  obtain ⟨i0, hi, hz0, hz1, hz2⟩ := info_parts infoB
  refine ⟨w.alloc (.cells ((List.replicate n (0 : UInt8)).map B).toArray 5), ?_, alloc_bl _ _ _, alloc_below _ _⟩
  rw [run_make w 24 5 i0 (.int .u8 0) Tryz.underlying24 hi hz0 .i64 .i64 (n : Int) (n : Int) (by omega) (by omega) (by rw [hz2]; omega) (by omega)]
  have e : madeCells (Value.cells (.int .u8 0)) ((n : Int).toNat * i0.size) = ((List.replicate n (0 : UInt8)).map B).toArray := by
    rw [hz1, Int.toNat_natCast, Nat.mul_one]
    apply Array.toList_inj.1
    have := toList_madeCells_one (.int .u8 0) n
    rw [List.map_replicate]
    exact this
  rw [e]
  simp

/-- A stretch of a slice of bytes. -/
theorem slice_mid (g cap l h n : Nat) (w : World) (lo hi : Int) (el : lo = (l : Int)) (eh : hi = (h : Int)) (h1 : h = l + n) (h2 : h ≤ cap) (h3 : 0 < n) :
    (Instr.sliceAt 24 (.slice (some ⟨g, 0, none⟩) cap cap) (some (.int .i64 lo)) (some (.int .i64 hi)) none).run Tryz.prog w = .ok (.slice (some ⟨g, l, none⟩) n (cap - l)) w := by
  subst el eh
  have e0 : Tryz.prog.elem 24 = 5 := by kernel_rfl
  have e2 := run_size1 (P := Tryz.prog) (e := 5) (by kernel_rfl)
  rw [run_sliceAt_slice _ _ _ _ _ _ Tryz.underlying24, run_slice_lh w 24 (some ⟨g, 0, none⟩) cap cap Tryz.underlying24 .i64 .i64 (l : Int) (h : Int) (by omega) (by omega) (by omega), e0, e2]
  show Result.ok (sliced _ _ _ _ 1) w = _
  unfold sliced
  rw [if_neg (by simp; omega)]
  simp only [Int.toNat_natCast, Nat.mul_one, Option.map_some, Addr.add_mid, Nat.zero_add]
  rw [show h - l = n by omega]

set_option maxRecDepth 100000 in
set_option maxHeartbeats 2000000 in
theorem sum_1 (b : Nat) (m : List UInt8) (w : World) (H : Sta w b 1 m) (T : Tb w) (hm : m.length < 2305843009213693952) :
    Calls Tryz.prog 78 #[.pointer (some ⟨b, 0, none⟩)] w fun e w' => ∃ g, e = .returned (.slice (some ⟨g, 0, none⟩) 32 32) ∧ w.heap.size ≤ g ∧ Bl 5 w' g ((sumF 1 m).map B) ∧ Below w.heap.size w w' := by
  have hh : isH 1 := by unfold isH; omega
  have g0 := stV_hash H
  have HH : Hid (Sta w b 1 m) := H
  have HT : Hid (Tb w) := T
  have hbs : b < w.heap.size := Cl.lt H
  have hg7 : 2 ≤ w.heap.size := by
    rcases Nat.lt_or_ge 1 w.heap.size with h1 | h1
    · exact h1
    · exfalso
      have := T.k 0 (by omega)
      unfold World.cell? at this
      simp [Array.getElem?_eq_none h1] at this
  obtain ⟨Z, hZ, hz⟩ := zero138
  obtain ⟨S, hS⟩ : ∃ S, S = stV 1 (cF 1 m) m.length (tF 1 m) := ⟨_, rfl⟩
  have hSl : S.length = 138 := by rw [hS, stV_length, cF_length, tF_length hh]
  have HR : Hid (w.rangeAt b 0 S) := fun j v hj => by
    obtain ⟨hj1, hj2⟩ := List.getElem?_eq_some_iff.1 hj
    have := HH.out
    unfold Sta at this
    rw [← hS] at this
    rw [Nat.zero_add, this.cell j hj1, hj2]
  have HI : Hid ((Tryz.prog.info? 125).map (·.size) = some S.length) := by
    show _ = _
    rw [hSl]; kernel_rfl
  obtain ⟨d, hu, hd⟩ := descState
  have Hu : Hid (Tryz.prog.underlying 125 = some d) := hu
  have Hd : Hid (d.isRow = true) := hd
  have HO : Hid (S.toArray.all (·.oneCell') = true) := by
    show _ = _
    rw [hS]
    exact all_oneCell_toArray (oneS _ _ _ _)
  have hA : Hid (Cl (w.alloc (.cells (.int .i64 0 :: Z : List Value).toArray 125)) w.heap.size (.int .i64 0 :: Z)) := alloc_cl _ _ _
  have hB : Hid (Below w.heap.size w (w.alloc (.cells (.int .i64 0 :: Z : List Value).toArray 125))) := alloc_below _ _
  have hZl : (.int .i64 0 :: Z : List Value).length = 138 := by rw [hZ]; simp [stR, Z128]
  have hth : Hid ((w.alloc (.cells (.int .i64 0 :: Z : List Value).toArray 125)).there w.heap.size 0 S.toArray.size) := hA.out.there 0 _ (by rw [hZl, List.size_toArray, hSl]; omega)
  have hI2 : Hid ((Tryz.prog.info? 125).map (·.size) = some S.toArray.size) := HI
  have hc0 : Hid (Sta ((w.alloc (.cells (.int .i64 0 :: Z : List Value).toArray 125)).setCells w.heap.size 0 S) w.heap.size 1 m) := by
    have hc := Cl.cells S 0 _ _ hA.out (by rw [hZl, hSl]; omega)
    have e : spl (.int .i64 0 :: Z) 0 S = S := by
      unfold spl
      rw [List.take_zero, List.nil_append, List.drop_of_length_le (by rw [hZl, hSl]; omega), List.append_nil]
    rw [e] at hc
    show Cl _ _ _
    rw [← hS]
    exact hc
  have hB0 : Hid (Below w.heap.size w ((w.alloc (.cells (.int .i64 0 :: Z : List Value).toArray 125)).setCells w.heap.size 0 S)) := hB.out.trans ((But.cells S 0 _ _ (But.refl _ _)).below hB.out.size (Nat.le_refl _))
  clear H T hZ hS hSl hZl hu hd
  go_enter Tryz.func78, Tryz.ntmps78
  go_wp2_with (first | refine wpList_load_mid rfl 125 _ rfl b 0 rfl S d HR.out Hu.out Hd.out HI.out ?_ | refine wpList_store_mid rfl 125 _ _ rfl w.heap.size 0 S.toArray rfl rfl hth.out hI2.out HO.out ?_ | fail)
  generalize (w.alloc (.cells (.int .i64 0 :: Z : List Value).toArray 125)).setCells w.heap.size 0 S = wa at hc0 hB0 ⊢
  refine (finish_any w.heap.size 1 m wa hc0.out hh (HT.out.below hB0.out) hg7 hm).mono ?_
  rintro e w1 ⟨rfl, hc1, hb1⟩
  have HC1 : Hid (Cl w1 w.heap.size (stV 1 (finF 1 m) m.length Z128)) := hc1
  have HB1 : Hid (Below w.heap.size w w1) := hB0.out.trans (hb1.below hB0.out.size (Nat.le_refl _))
  clear hc1 hb1 hc0 hB0 hA hB hth HO HR HI hI2 Hu Hd hz
  have g1 : w1.cell? ⟨b, 0, none⟩ = some (.int .i64 1) := stV_hash (Cl.below HH.out HB1.out hbs)
  clear g0
  go_wp2_with fail
  have CB : Calls Tryz.prog 95 #[.int .i64 1] w1 fun e w' => e = .returned (.int .i64 64) ∧ w' = w1 := block_any 1 w1
  refine CB.mono ?_
  rintro e w2 ⟨rfl, rfl⟩
  clear CB
  rename World => w1
  have CS : Calls Tryz.prog 17 #[.int .i64 1] w1 fun e w' => e = .returned (.int .i64 32) ∧ w' = w1 := size_any 1 w1
  go_wp2_with fail
  refine CS.mono ?_
  rintro e w2 ⟨rfl, rfl⟩
  clear CS g1
  rename World => w1
  obtain ⟨wm, hmk0, hcm, hbm⟩ := made w1 32 (by omega)
  have hmk : (Instr.makeSlice 24 (.int .i64 32) (.int .i64 32)).run Tryz.prog w1 = .ok (.slice (some ⟨w1.heap.size, 0, none⟩) 32 32) wm := hmk0
  clear hmk0
  have HC2 : Hid (Cl wm w.heap.size (stV 1 (finF 1 m) m.length Z128)) := HC1.out.below hbm HC1.out.lt
  have HB2 : Hid (Below w.heap.size w wm) := HB1.out.trans (hbm.mono HB1.out.size)
  have HCm : Hid (Bl 5 wm w1.heap.size ((outF 4 0 (finF 1 m) ++ List.replicate (32 - 4 * 0) 0).map B)) := hcm
  have hlt1 : w.heap.size < w1.heap.size := HC1.out.lt
  have hF := finF_length 1 m
  have HF : Hid (∀ k, 0 ≤ (finF 1 m).getD k 0 ∧ (finF 1 m).getD k 0 < 18446744073709551616) := finF_bd 1 m
  have Hs : Hid (True → sumF 1 m = outF 4 8 (finF 1 m)) := fun _ => rfl
  generalize finF 1 m = F at *
  clear hcm hbm HC1 HB1
  go_wp2
  clear hmk
  generalize w1.heap.size = g at *
  go_loopw [27] (fun s ws => ∃ k : Nat, s = .int .i64 (k : Int) ∧ k ≤ 8 ∧ Hid (Bl 5 ws g ((outF 4 k F ++ List.replicate (32 - 4 * k) 0).map B)) ∧ Hid (Cl ws w.heap.size (stV 1 F m.length Z128)) ∧ Hid (Below w.heap.size w ws)) (fun s _ => 8 - (intOf s).toNat)
  case atStart => exact ⟨0, rfl, by omega, HCm, HC2, HB2⟩
  case round =>
    clear HCm HC2 HB2
    obtain ⟨k, rfl, hk, hcg, hcs, hbel⟩ := hrel
    by_cases hlt : k < 8
    · have gk := stV_chain hcs.out k (by omega)
      have hF1 : F[k]'(by omega) = F.getD k 0 := by rw [List.getD_eq_getElem?_getD, List.getElem?_eq_getElem (by omega)]; rfl
      rw [hF1] at gk
      obtain ⟨N, hN⟩ : ∃ N : Nat, F.getD k 0 = (N : Int) := ⟨(F.getD k 0).toNat, by have := (HF.out k).1; omega⟩
      have hN2 : N < 18446744073709551616 := by have := (HF.out k).2; omega
      have HN : Hid (True → outF 4 (k + 1) F = outF 4 k F ++ tobe 4 N) := fun _ => by rw [outF_succ, hN]; rfl
      rw [hN] at gk
      clear hF1 hN
      unfold V at gk
      have hlen : ((outF 4 k F ++ List.replicate (32 - 4 * k) 0).map B).length = 32 := by rw [List.length_map, List.length_append, outF_length, List.length_replicate]; omega
      have P := put_bl 5 g (4 * k) 4 (32 - 4 * k) N _ (wr.drewN 1) (hcg.out.drewN 1) (by rw [hlen]; omega) (by rw [hlen]; omega) (by omega) hN2
      have hs3 : ∀ W, (Instr.sliceAt 24 (.slice (some ⟨g, 0, none⟩) 32 32) (some (.int .i64 ((k : Int) * 4))) (some (.int .i64 (((k : Int) + 1) * 4))) none).run Tryz.prog W = .ok (.slice (some ⟨g, 4 * k, none⟩) 4 (32 - 4 * k)) W := fun W => slice_mid g 32 (4 * k) (4 * k + 4) 4 W _ _ (by omega) (by omega) (by omega) (by omega) (by omega)
      go_wp2
      refine wp_region_tail 13 (by kernel_rfl) (by kernel_rfl) ?_
      simp only [List.take_succ_cons, List.take_zero, List.drop_succ_cons, List.drop_zero]
      repeat (first | go_big_quiet_skip | (go_big_quiet_want; go_big_quiet_op; go_big_quiet_on))
      refine wpQuiet_nil ?_
      go_wp2_with fail
      refine P.mono ?_
      rintro e w4 ⟨rfl, hc4, hb4, _⟩
      rw [spl_out 4 32 k N F (by omega), ← HN.out trivial] at hc4
      have HC4 : Hid (Bl 5 w4 g ((outF 4 (k + 1) F ++ List.replicate (32 - 4 * (k + 1)) 0).map B)) := hc4
      have HS4 : Hid (Cl w4 w.heap.size (stV 1 F m.length Z128)) := hb4.other hcs.out (by omega)
      have HB4 : Hid (Below w.heap.size w w4) := (below_drewN hbel.out 1).trans (hb4.below hbel.out.size (by omega))
      clear P hc4 hb4 hs3
      go_wp2
      exact ⟨⟨k + 1, by go_num, by omega, HC4, HS4, HB4⟩, by simp [intOf]; omega⟩
    · obtain rfl : k = 8 := by omega
      go_wp2
      go_ret
      refine ⟨g, rfl, by omega, ?_, hbel.out⟩
      rw [Hs.out trivial]
      simpa using hcg.out

set_option maxRecDepth 100000 in
set_option maxHeartbeats 2000000 in
theorem sum_2 (b : Nat) (m : List UInt8) (w : World) (H : Sta w b 2 m) (T : Tb w) (hm : m.length < 2305843009213693952) :
    Calls Tryz.prog 78 #[.pointer (some ⟨b, 0, none⟩)] w fun e w' => ∃ g, e = .returned (.slice (some ⟨g, 0, none⟩) 48 48) ∧ w.heap.size ≤ g ∧ Bl 5 w' g ((sumF 2 m).map B) ∧ Below w.heap.size w w' := by
  have hh : isH 2 := by unfold isH; omega
  have g0 := stV_hash H
  have HH : Hid (Sta w b 2 m) := H
  have HT : Hid (Tb w) := T
  have hbs : b < w.heap.size := Cl.lt H
  have hg7 : 2 ≤ w.heap.size := by
    rcases Nat.lt_or_ge 1 w.heap.size with h1 | h1
    · exact h1
    · exfalso
      have := T.k 0 (by omega)
      unfold World.cell? at this
      simp [Array.getElem?_eq_none h1] at this
  obtain ⟨Z, hZ, hz⟩ := zero138
  obtain ⟨S, hS⟩ : ∃ S, S = stV 2 (cF 2 m) m.length (tF 2 m) := ⟨_, rfl⟩
  have hSl : S.length = 138 := by rw [hS, stV_length, cF_length, tF_length hh]
  have HR : Hid (w.rangeAt b 0 S) := fun j v hj => by
    obtain ⟨hj1, hj2⟩ := List.getElem?_eq_some_iff.1 hj
    have := HH.out
    unfold Sta at this
    rw [← hS] at this
    rw [Nat.zero_add, this.cell j hj1, hj2]
  have HI : Hid ((Tryz.prog.info? 125).map (·.size) = some S.length) := by
    show _ = _
    rw [hSl]; kernel_rfl
  obtain ⟨d, hu, hd⟩ := descState
  have Hu : Hid (Tryz.prog.underlying 125 = some d) := hu
  have Hd : Hid (d.isRow = true) := hd
  have HO : Hid (S.toArray.all (·.oneCell') = true) := by
    show _ = _
    rw [hS]
    exact all_oneCell_toArray (oneS _ _ _ _)
  have hA : Hid (Cl (w.alloc (.cells (.int .i64 0 :: Z : List Value).toArray 125)) w.heap.size (.int .i64 0 :: Z)) := alloc_cl _ _ _
  have hB : Hid (Below w.heap.size w (w.alloc (.cells (.int .i64 0 :: Z : List Value).toArray 125))) := alloc_below _ _
  have hZl : (.int .i64 0 :: Z : List Value).length = 138 := by rw [hZ]; simp [stR, Z128]
  have hth : Hid ((w.alloc (.cells (.int .i64 0 :: Z : List Value).toArray 125)).there w.heap.size 0 S.toArray.size) := hA.out.there 0 _ (by rw [hZl, List.size_toArray, hSl]; omega)
  have hI2 : Hid ((Tryz.prog.info? 125).map (·.size) = some S.toArray.size) := HI
  have hc0 : Hid (Sta ((w.alloc (.cells (.int .i64 0 :: Z : List Value).toArray 125)).setCells w.heap.size 0 S) w.heap.size 2 m) := by
    have hc := Cl.cells S 0 _ _ hA.out (by rw [hZl, hSl]; omega)
    have e : spl (.int .i64 0 :: Z) 0 S = S := by
      unfold spl
      rw [List.take_zero, List.nil_append, List.drop_of_length_le (by rw [hZl, hSl]; omega), List.append_nil]
    rw [e] at hc
    show Cl _ _ _
    rw [← hS]
    exact hc
  have hB0 : Hid (Below w.heap.size w ((w.alloc (.cells (.int .i64 0 :: Z : List Value).toArray 125)).setCells w.heap.size 0 S)) := hB.out.trans ((But.cells S 0 _ _ (But.refl _ _)).below hB.out.size (Nat.le_refl _))
  clear H T hZ hS hSl hZl hu hd
  go_enter Tryz.func78, Tryz.ntmps78
  go_wp2_with (first | refine wpList_load_mid rfl 125 _ rfl b 0 rfl S d HR.out Hu.out Hd.out HI.out ?_ | refine wpList_store_mid rfl 125 _ _ rfl w.heap.size 0 S.toArray rfl rfl hth.out hI2.out HO.out ?_ | fail)
  generalize (w.alloc (.cells (.int .i64 0 :: Z : List Value).toArray 125)).setCells w.heap.size 0 S = wa at hc0 hB0 ⊢
  refine (finish_any w.heap.size 2 m wa hc0.out hh (HT.out.below hB0.out) hg7 hm).mono ?_
  rintro e w1 ⟨rfl, hc1, hb1⟩
  have HC1 : Hid (Cl w1 w.heap.size (stV 2 (finF 2 m) m.length Z128)) := hc1
  have HB1 : Hid (Below w.heap.size w w1) := hB0.out.trans (hb1.below hB0.out.size (Nat.le_refl _))
  clear hc1 hb1 hc0 hB0 hA hB hth HO HR HI hI2 Hu Hd hz
  have g1 : w1.cell? ⟨b, 0, none⟩ = some (.int .i64 2) := stV_hash (Cl.below HH.out HB1.out hbs)
  clear g0
  go_wp2_with fail
  have CB : Calls Tryz.prog 95 #[.int .i64 2] w1 fun e w' => e = .returned (.int .i64 128) ∧ w' = w1 := block_any 2 w1
  refine CB.mono ?_
  rintro e w2 ⟨rfl, rfl⟩
  clear CB
  rename World => w1
  have CS : Calls Tryz.prog 17 #[.int .i64 2] w1 fun e w' => e = .returned (.int .i64 48) ∧ w' = w1 := size_any 2 w1
  go_wp2_with fail
  refine CS.mono ?_
  rintro e w2 ⟨rfl, rfl⟩
  clear CS g1
  rename World => w1
  obtain ⟨wm, hmk0, hcm, hbm⟩ := made w1 48 (by omega)
  have hmk : (Instr.makeSlice 24 (.int .i64 48) (.int .i64 48)).run Tryz.prog w1 = .ok (.slice (some ⟨w1.heap.size, 0, none⟩) 48 48) wm := hmk0
  clear hmk0
  have HC2 : Hid (Cl wm w.heap.size (stV 2 (finF 2 m) m.length Z128)) := HC1.out.below hbm HC1.out.lt
  have HB2 : Hid (Below w.heap.size w wm) := HB1.out.trans (hbm.mono HB1.out.size)
  have HCm : Hid (Bl 5 wm w1.heap.size ((outF 8 0 (finF 2 m) ++ List.replicate (48 - 8 * 0) 0).map B)) := hcm
  have hlt1 : w.heap.size < w1.heap.size := HC1.out.lt
  have hF := finF_length 2 m
  have HF : Hid (∀ k, 0 ≤ (finF 2 m).getD k 0 ∧ (finF 2 m).getD k 0 < 18446744073709551616) := finF_bd 2 m
  have Hs : Hid (True → sumF 2 m = outF 8 6 (finF 2 m)) := fun _ => rfl
  generalize finF 2 m = F at *
  clear hcm hbm HC1 HB1
  go_wp2
  clear hmk
  generalize w1.heap.size = g at *
  go_loopw [27] (fun s ws => ∃ k : Nat, s = .int .i64 (k : Int) ∧ k ≤ 6 ∧ Hid (Bl 5 ws g ((outF 8 k F ++ List.replicate (48 - 8 * k) 0).map B)) ∧ Hid (Cl ws w.heap.size (stV 2 F m.length Z128)) ∧ Hid (Below w.heap.size w ws)) (fun s _ => 6 - (intOf s).toNat)
  case atStart => exact ⟨0, rfl, by omega, HCm, HC2, HB2⟩
  case round =>
    clear HCm HC2 HB2
    obtain ⟨k, rfl, hk, hcg, hcs, hbel⟩ := hrel
    by_cases hlt : k < 6
    · have gk := stV_chain hcs.out k (by omega)
      have hF1 : F[k]'(by omega) = F.getD k 0 := by rw [List.getD_eq_getElem?_getD, List.getElem?_eq_getElem (by omega)]; rfl
      rw [hF1] at gk
      obtain ⟨N, hN⟩ : ∃ N : Nat, F.getD k 0 = (N : Int) := ⟨(F.getD k 0).toNat, by have := (HF.out k).1; omega⟩
      have hN2 : N < 18446744073709551616 := by have := (HF.out k).2; omega
      have HN : Hid (True → outF 8 (k + 1) F = outF 8 k F ++ tobe 8 N) := fun _ => by rw [outF_succ, hN]; rfl
      rw [hN] at gk
      clear hF1 hN
      unfold V at gk
      have hlen : ((outF 8 k F ++ List.replicate (48 - 8 * k) 0).map B).length = 48 := by rw [List.length_map, List.length_append, outF_length, List.length_replicate]; omega
      have P := put_bl 5 g (8 * k) 8 (48 - 8 * k) N _ (wr.drewN 1) (hcg.out.drewN 1) (by rw [hlen]; omega) (by rw [hlen]; omega) (by omega) hN2
      have hs3 : ∀ W, (Instr.sliceAt 24 (.slice (some ⟨g, 0, none⟩) 48 48) (some (.int .i64 ((k : Int) * 8))) (some (.int .i64 (((k : Int) + 1) * 8))) none).run Tryz.prog W = .ok (.slice (some ⟨g, 8 * k, none⟩) 8 (48 - 8 * k)) W := fun W => slice_mid g 48 (8 * k) (8 * k + 8) 8 W _ _ (by omega) (by omega) (by omega) (by omega) (by omega)
      go_wp2
      refine wp_region_tail 13 (by kernel_rfl) (by kernel_rfl) ?_
      simp only [List.take_succ_cons, List.take_zero, List.drop_succ_cons, List.drop_zero]
      repeat (first | go_big_quiet_skip | (go_big_quiet_want; go_big_quiet_op; go_big_quiet_on))
      refine wpQuiet_nil ?_
      go_wp2_with fail
      refine P.mono ?_
      rintro e w4 ⟨rfl, hc4, hb4, _⟩
      rw [spl_out 8 48 k N F (by omega), ← HN.out trivial] at hc4
      have HC4 : Hid (Bl 5 w4 g ((outF 8 (k + 1) F ++ List.replicate (48 - 8 * (k + 1)) 0).map B)) := hc4
      have HS4 : Hid (Cl w4 w.heap.size (stV 2 F m.length Z128)) := hb4.other hcs.out (by omega)
      have HB4 : Hid (Below w.heap.size w w4) := (below_drewN hbel.out 1).trans (hb4.below hbel.out.size (by omega))
      clear P hc4 hb4 hs3
      go_wp2
      exact ⟨⟨k + 1, by go_num, by omega, HC4, HS4, HB4⟩, by simp [intOf]; omega⟩
    · obtain rfl : k = 6 := by omega
      go_wp2
      go_ret
      refine ⟨g, rfl, by omega, ?_, hbel.out⟩
      rw [Hs.out trivial]
      simpa using hcg.out

set_option maxRecDepth 100000 in
set_option maxHeartbeats 2000000 in
theorem sum_3 (b : Nat) (m : List UInt8) (w : World) (H : Sta w b 3 m) (T : Tb w) (hm : m.length < 2305843009213693952) :
    Calls Tryz.prog 78 #[.pointer (some ⟨b, 0, none⟩)] w fun e w' => ∃ g, e = .returned (.slice (some ⟨g, 0, none⟩) 64 64) ∧ w.heap.size ≤ g ∧ Bl 5 w' g ((sumF 3 m).map B) ∧ Below w.heap.size w w' := by
  have hh : isH 3 := by unfold isH; omega
  have g0 := stV_hash H
  have HH : Hid (Sta w b 3 m) := H
  have HT : Hid (Tb w) := T
  have hbs : b < w.heap.size := Cl.lt H
  have hg7 : 2 ≤ w.heap.size := by
    rcases Nat.lt_or_ge 1 w.heap.size with h1 | h1
    · exact h1
    · exfalso
      have := T.k 0 (by omega)
      unfold World.cell? at this
      simp [Array.getElem?_eq_none h1] at this
  obtain ⟨Z, hZ, hz⟩ := zero138
  obtain ⟨S, hS⟩ : ∃ S, S = stV 3 (cF 3 m) m.length (tF 3 m) := ⟨_, rfl⟩
  have hSl : S.length = 138 := by rw [hS, stV_length, cF_length, tF_length hh]
  have HR : Hid (w.rangeAt b 0 S) := fun j v hj => by
    obtain ⟨hj1, hj2⟩ := List.getElem?_eq_some_iff.1 hj
    have := HH.out
    unfold Sta at this
    rw [← hS] at this
    rw [Nat.zero_add, this.cell j hj1, hj2]
  have HI : Hid ((Tryz.prog.info? 125).map (·.size) = some S.length) := by
    show _ = _
    rw [hSl]; kernel_rfl
  obtain ⟨d, hu, hd⟩ := descState
  have Hu : Hid (Tryz.prog.underlying 125 = some d) := hu
  have Hd : Hid (d.isRow = true) := hd
  have HO : Hid (S.toArray.all (·.oneCell') = true) := by
    show _ = _
    rw [hS]
    exact all_oneCell_toArray (oneS _ _ _ _)
  have hA : Hid (Cl (w.alloc (.cells (.int .i64 0 :: Z : List Value).toArray 125)) w.heap.size (.int .i64 0 :: Z)) := alloc_cl _ _ _
  have hB : Hid (Below w.heap.size w (w.alloc (.cells (.int .i64 0 :: Z : List Value).toArray 125))) := alloc_below _ _
  have hZl : (.int .i64 0 :: Z : List Value).length = 138 := by rw [hZ]; simp [stR, Z128]
  have hth : Hid ((w.alloc (.cells (.int .i64 0 :: Z : List Value).toArray 125)).there w.heap.size 0 S.toArray.size) := hA.out.there 0 _ (by rw [hZl, List.size_toArray, hSl]; omega)
  have hI2 : Hid ((Tryz.prog.info? 125).map (·.size) = some S.toArray.size) := HI
  have hc0 : Hid (Sta ((w.alloc (.cells (.int .i64 0 :: Z : List Value).toArray 125)).setCells w.heap.size 0 S) w.heap.size 3 m) := by
    have hc := Cl.cells S 0 _ _ hA.out (by rw [hZl, hSl]; omega)
    have e : spl (.int .i64 0 :: Z) 0 S = S := by
      unfold spl
      rw [List.take_zero, List.nil_append, List.drop_of_length_le (by rw [hZl, hSl]; omega), List.append_nil]
    rw [e] at hc
    show Cl _ _ _
    rw [← hS]
    exact hc
  have hB0 : Hid (Below w.heap.size w ((w.alloc (.cells (.int .i64 0 :: Z : List Value).toArray 125)).setCells w.heap.size 0 S)) := hB.out.trans ((But.cells S 0 _ _ (But.refl _ _)).below hB.out.size (Nat.le_refl _))
  clear H T hZ hS hSl hZl hu hd
  go_enter Tryz.func78, Tryz.ntmps78
  go_wp2_with (first | refine wpList_load_mid rfl 125 _ rfl b 0 rfl S d HR.out Hu.out Hd.out HI.out ?_ | refine wpList_store_mid rfl 125 _ _ rfl w.heap.size 0 S.toArray rfl rfl hth.out hI2.out HO.out ?_ | fail)
  generalize (w.alloc (.cells (.int .i64 0 :: Z : List Value).toArray 125)).setCells w.heap.size 0 S = wa at hc0 hB0 ⊢
  refine (finish_any w.heap.size 3 m wa hc0.out hh (HT.out.below hB0.out) hg7 hm).mono ?_
  rintro e w1 ⟨rfl, hc1, hb1⟩
  have HC1 : Hid (Cl w1 w.heap.size (stV 3 (finF 3 m) m.length Z128)) := hc1
  have HB1 : Hid (Below w.heap.size w w1) := hB0.out.trans (hb1.below hB0.out.size (Nat.le_refl _))
  clear hc1 hb1 hc0 hB0 hA hB hth HO HR HI hI2 Hu Hd hz
  have g1 : w1.cell? ⟨b, 0, none⟩ = some (.int .i64 3) := stV_hash (Cl.below HH.out HB1.out hbs)
  clear g0
  go_wp2_with fail
  have CB : Calls Tryz.prog 95 #[.int .i64 3] w1 fun e w' => e = .returned (.int .i64 128) ∧ w' = w1 := block_any 3 w1
  refine CB.mono ?_
  rintro e w2 ⟨rfl, rfl⟩
  clear CB
  rename World => w1
  have CS : Calls Tryz.prog 17 #[.int .i64 3] w1 fun e w' => e = .returned (.int .i64 64) ∧ w' = w1 := size_any 3 w1
  go_wp2_with fail
  refine CS.mono ?_
  rintro e w2 ⟨rfl, rfl⟩
  clear CS g1
  rename World => w1
  obtain ⟨wm, hmk0, hcm, hbm⟩ := made w1 64 (by omega)
  have hmk : (Instr.makeSlice 24 (.int .i64 64) (.int .i64 64)).run Tryz.prog w1 = .ok (.slice (some ⟨w1.heap.size, 0, none⟩) 64 64) wm := hmk0
  clear hmk0
  have HC2 : Hid (Cl wm w.heap.size (stV 3 (finF 3 m) m.length Z128)) := HC1.out.below hbm HC1.out.lt
  have HB2 : Hid (Below w.heap.size w wm) := HB1.out.trans (hbm.mono HB1.out.size)
  have HCm : Hid (Bl 5 wm w1.heap.size ((outF 8 0 (finF 3 m) ++ List.replicate (64 - 8 * 0) 0).map B)) := hcm
  have hlt1 : w.heap.size < w1.heap.size := HC1.out.lt
  have hF := finF_length 3 m
  have HF : Hid (∀ k, 0 ≤ (finF 3 m).getD k 0 ∧ (finF 3 m).getD k 0 < 18446744073709551616) := finF_bd 3 m
  have Hs : Hid (True → sumF 3 m = outF 8 8 (finF 3 m)) := fun _ => rfl
  generalize finF 3 m = F at *
  clear hcm hbm HC1 HB1
  go_wp2
  clear hmk
  generalize w1.heap.size = g at *
  go_loopw [27] (fun s ws => ∃ k : Nat, s = .int .i64 (k : Int) ∧ k ≤ 8 ∧ Hid (Bl 5 ws g ((outF 8 k F ++ List.replicate (64 - 8 * k) 0).map B)) ∧ Hid (Cl ws w.heap.size (stV 3 F m.length Z128)) ∧ Hid (Below w.heap.size w ws)) (fun s _ => 8 - (intOf s).toNat)
  case atStart => exact ⟨0, rfl, by omega, HCm, HC2, HB2⟩
  case round =>
    clear HCm HC2 HB2
    obtain ⟨k, rfl, hk, hcg, hcs, hbel⟩ := hrel
    by_cases hlt : k < 8
    · have gk := stV_chain hcs.out k (by omega)
      have hF1 : F[k]'(by omega) = F.getD k 0 := by rw [List.getD_eq_getElem?_getD, List.getElem?_eq_getElem (by omega)]; rfl
      rw [hF1] at gk
      obtain ⟨N, hN⟩ : ∃ N : Nat, F.getD k 0 = (N : Int) := ⟨(F.getD k 0).toNat, by have := (HF.out k).1; omega⟩
      have hN2 : N < 18446744073709551616 := by have := (HF.out k).2; omega
      have HN : Hid (True → outF 8 (k + 1) F = outF 8 k F ++ tobe 8 N) := fun _ => by rw [outF_succ, hN]; rfl
      rw [hN] at gk
      clear hF1 hN
      unfold V at gk
      have hlen : ((outF 8 k F ++ List.replicate (64 - 8 * k) 0).map B).length = 64 := by rw [List.length_map, List.length_append, outF_length, List.length_replicate]; omega
      have P := put_bl 5 g (8 * k) 8 (64 - 8 * k) N _ (wr.drewN 1) (hcg.out.drewN 1) (by rw [hlen]; omega) (by rw [hlen]; omega) (by omega) hN2
      have hs3 : ∀ W, (Instr.sliceAt 24 (.slice (some ⟨g, 0, none⟩) 64 64) (some (.int .i64 ((k : Int) * 8))) (some (.int .i64 (((k : Int) + 1) * 8))) none).run Tryz.prog W = .ok (.slice (some ⟨g, 8 * k, none⟩) 8 (64 - 8 * k)) W := fun W => slice_mid g 64 (8 * k) (8 * k + 8) 8 W _ _ (by omega) (by omega) (by omega) (by omega) (by omega)
      go_wp2
      refine wp_region_tail 13 (by kernel_rfl) (by kernel_rfl) ?_
      simp only [List.take_succ_cons, List.take_zero, List.drop_succ_cons, List.drop_zero]
      repeat (first | go_big_quiet_skip | (go_big_quiet_want; go_big_quiet_op; go_big_quiet_on))
      refine wpQuiet_nil ?_
      go_wp2_with fail
      refine P.mono ?_
      rintro e w4 ⟨rfl, hc4, hb4, _⟩
      rw [spl_out 8 64 k N F (by omega), ← HN.out trivial] at hc4
      have HC4 : Hid (Bl 5 w4 g ((outF 8 (k + 1) F ++ List.replicate (64 - 8 * (k + 1)) 0).map B)) := hc4
      have HS4 : Hid (Cl w4 w.heap.size (stV 3 F m.length Z128)) := hb4.other hcs.out (by omega)
      have HB4 : Hid (Below w.heap.size w w4) := (below_drewN hbel.out 1).trans (hb4.below hbel.out.size (by omega))
      clear P hc4 hb4 hs3
      go_wp2
      exact ⟨⟨k + 1, by go_num, by omega, HC4, HS4, HB4⟩, by simp [intOf]; omega⟩
    · obtain rfl : k = 8 := by omega
      go_wp2
      go_ret
      refine ⟨g, rfl, by omega, ?_, hbel.out⟩
      rw [Hs.out trivial]
      simpa using hcg.out

/-- A sum in memory of its own. -/
theorem sum_any (b : Nat) (h : Int) (m : List UInt8) (w : World) (H : Sta w b h m) (hh : isH h) (T : Tb w) (hm : m.length < 2305843009213693952) :
    Calls Tryz.prog 78 #[.pointer (some ⟨b, 0, none⟩)] w fun e w' => ∃ g, e = .returned (.slice (some ⟨g, 0, none⟩) (siz h) (siz h)) ∧ w.heap.size ≤ g ∧ Bl 5 w' g ((sumF h m).map B) ∧ Below w.heap.size w w' := by
  rcases hh with rfl | rfl | rfl
  · exact sum_1 b m w H T hm
  · exact sum_2 b m w H T hm
  · exact sum_3 b m w H T hm

end Go.Proofs.YtghfoppojdkhkaaGreatDoor.Sha