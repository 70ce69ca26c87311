import Derived.Test.YtpfdaclmchcbiaaDoorShNew
namespace Go.Proofs.YtpfdaclmchcbiaaDoor.Sha
open Go.RowKit
set_option maxRecDepth 100000

/-- These bytes can be read there. -/
def Rd (w : World) (ao : Option Addr) (l : List UInt8) : Prop :=
  l = [] ∨ ∃ g off : Nat, ao = some ⟨g, off, none⟩ ∧ g < w.heap.size ∧ ∀ j, j < l.length → w.cell? ⟨g, off + j, none⟩ = some (B (l.getD j 0))
/-- They don't lie in this block. -/
def Off (ao : Option Addr) (l : List UInt8) (b : Nat) : Prop := ∀ a, l ≠ [] → ao = some a → a.block ≠ b

theorem setCells_drewN {b : Nat} (q : Nat) : ∀ (xs : List Value) (o : Nat) (w : World), (w.drewN q).setCells b o xs = (w.setCells b o xs).drewN q
  | [], _, _ => rfl
  | v :: r, o, w => setCells_drewN q r (o + 1) (w.setCell ⟨b, o, none⟩ v)

theorem Cl.drewN {w : World} {b : Nat} {vs : List Value} (h : Cl w b vs) (q : Nat) : Cl (w.drewN q) b vs := h

theorem stV_setcount (h : Int) (ch : List Int) (ct ct' : Nat) (tl : List UInt8) (h8 : ch.length = 8) : (stV h ch ct tl).set 9 (.int .u64 (ct' : Int)) = stV h ch ct' tl := by
  unfold stV
  rw [List.set_cons_succ, List.set_append_right _ _ (by simp [h8])]
  simp [h8]

set_option maxRecDepth 100000 in
/-- A slice of bytes cut from its head. -/
theorem slice_low (g o len cap n : Nat) (h1 : n ≤ len) (h2 : len ≤ cap) : ∃ a2, (∀ W, (Instr.sliceAt 29 (.slice (some ⟨g, o, none⟩) len cap) (some (.int .i64 (n : Int))) none none).run Tryd.prog W = .ok (.slice a2 (len - n) (cap - n)) W) ∧ (n < len → a2 = some ⟨g, o + n, none⟩) := by
  have e0 : Tryd.prog.elem 29 = 5 := by kernel_rfl
  have e2 := run_size1 (P := Tryd.prog) (e := 5) (by kernel_rfl)
  refine ⟨if cap = n then some ⟨g, o, none⟩ else some ⟨g, o + n, none⟩, fun W => ?_, fun hn => ?_⟩
  · rw [run_sliceAt_slice _ _ _ _ _ _ Tryd.underlying29, run_slice_l W 29 (some ⟨g, o, none⟩) len cap Tryd.underlying29 .i64 (n : Int) (by omega) (by omega), e0, e2]
    show Result.ok (sliced _ _ _ _ 1) W = _
    unfold sliced
    simp only [Int.toNat_natCast, Nat.mul_one]
    congr 2
    split
    · rfl
    · simp [Addr.add_mid]
  · rw [if_neg (by omega)]

set_option maxRecDepth 100000 in
set_option maxHeartbeats 2000000 in
theorem write_any (b : Nat) (h : Int) (m x : List UInt8) (ao : Option Addr) (cap : Nat) (w : World) (H : Sta w b h m) (hh : isH h) (T : Tb w) (hb7 : 7 ≤ b) (hrd : Rd w ao x) (hoff : Off ao x b) (hcap : x.length ≤ cap) (hm : m.length ≤ 2305843009213693952) (hx : x.length ≤ 2305843009213693952) (_hcm : cap ≤ 9223372036854775807) :
    Calls Tryd.prog 13 #[.pointer (some ⟨b, 0, none⟩), .slice ao x.length cap] w fun e w' => e = .returned (.tuple #[]) ∧ Sta w' b h (m ++ x) ∧ But w w' b := by
  have g0 := stV_hash H
  have HH : Hid (Sta w b h m) := H
  have HT : Hid (Tb w) := T
  have hbp := blk_pos hh
  have CB := block_any h w
  obtain ⟨K, hK⟩ : ∃ K, blk h = K := ⟨_, rfl⟩
  rw [hK] at CB hbp
  have HK : Hid (True → blk h = K) := fun _ => hK
  have HR : Hid (∃ g off : Nat, (x ≠ [] → ao = some ⟨g, off, none⟩ ∧ g ≠ b ∧ g < w.heap.size) ∧ ∀ j, j < x.length → w.cell? ⟨g, off + j, none⟩ = some (B (x.getD j 0))) := by
    rcases hrd with rfl | ⟨g, off, e, hg, hc⟩
    · exact ⟨0, 0, fun hne => absurd rfl hne, fun j hj => by simp at hj⟩
    · exact ⟨g, off, fun hne => ⟨e, hoff _ hne e, hg⟩, hc⟩
  clear H T hK hrd hoff
  go_enter Tryd.func13, Tryd.ntmps13
  go_wp2_with fail
  refine CB.mono ?_
  rintro e w1 ⟨rfl, rfl⟩
  clear CB g0
  obtain ⟨g, off, hx1, hx2⟩ := HR.out
  have Hx1 : Hid (x ≠ [] → ao = some ⟨g, off, none⟩ ∧ g ≠ b ∧ g < w1.heap.size) := hx1
  have Hx2 : Hid (∀ j, j < x.length → w1.cell? ⟨g, off + j, none⟩ = some (B (x.getD j 0))) := hx2
  clear HR hx1 hx2
  rename World => w
  go_wp2
  go_loopw [1] (fun s ws => ∃ (k : Nat) (a : Option Addr), s = .slice a (x.length - k) (cap - k) ∧ k ≤ x.length ∧ (k < x.length → a = some ⟨g, off + k, none⟩) ∧ Hid (Sta ws b h (m ++ x.take k)) ∧ Hid (But w ws b)) (fun s _ => match s with | .slice _ n _ => n | _ => 0)
  case atStart => exact ⟨0, ao, rfl, by omega, fun h0 => (Hx1.out (fun e => by subst e; simp at h0)).1, by simpa using HH, But.refl _ _⟩
  case round =>
    obtain ⟨k, a, rfl, hk, ha, hst, hbut⟩ := hrel
    by_cases hlt : k < x.length
    · obtain rfl := ha hlt
      have hne : x ≠ [] := fun e => by subst e; simp at hlt
      obtain ⟨_, hgb, hgs⟩ := Hx1.out hne
      clear ha
      obtain ⟨mm, hmm⟩ : ∃ mm, mm = m ++ x.take k := ⟨_, rfl⟩
      have hml : mm.length = m.length + k := by rw [hmm]; simp; omega
      rw [← hmm] at hst
      obtain ⟨f, hf⟩ : ∃ f, mm.length % K = f := ⟨_, rfl⟩
      have hfK : f < K := by rw [← hf]; exact Nat.mod_lt _ hbp.1
      obtain ⟨n, hn⟩ : ∃ n, n = min (x.length - k) (K - f) := ⟨_, rfl⟩
      have hn1 : 1 ≤ n ∧ n ≤ x.length - k ∧ n ≤ K - f := by omega
      obtain ⟨ys, hys⟩ : ∃ ys, ys = (x.drop k).take n := ⟨_, rfl⟩
      have hyl : ys.length = n := by rw [hys]; simp; omega
      have hsl := tail_slice b f K (wr.drewN 2) (f : Int) (K : Int) rfl rfl (by omega) (by omega) (by omega)
      have hS := hst.out
      unfold Sta at hS
      have hcl8 := cF_length h mm
      have htl := tF_length hh mm
      have hcp : ∀ q, (Builtin.copy_ #[29, 29] 3 #[.slice (some ⟨b, 10 + f, none⟩) (K - f) (128 - f), .slice (some ⟨g, off + k, none⟩) (x.length - k) (cap - k)]).run Tryd.prog (wr.drewN q) = .ok (goInt n) ((wr.setCells b (10 + f) (ys.map B)).drewN q) := fun q => by
        have h1 := run_copy_cells (P := Tryd.prog) (wr.drewN q) 29 29 3 5 b (10 + f) (K - f) (128 - f) ⟨g, off + k, none⟩ (x.length - k) (cap - k) (ys.map B) (by kernel_rfl) (by kernel_rfl) (by
            rw [List.length_map, hyl]; exact hn) (fun j v hj => by
            obtain ⟨hj1, hj2⟩ := List.getElem?_eq_some_iff.1 hj
            have hj3 : j < n := by rw [List.length_map, hyl] at hj1; exact hj1
            have hq := Hx2.out (k + j) (by omega)
            have e2 : (ys.map B)[j] = B (x.getD (k + j) 0) := by
              rw [List.getElem_map]
              congr 1
              subst hys
              rw [List.getElem_take, List.getElem_drop]
              rw [List.getD_eq_getElem?_getD, List.getElem?_eq_getElem (by omega)]
              rfl
            rw [← hj2, e2, Addr.add_mid, Nat.add_assoc]
            exact cell_but hq fun hg2 => hbut.out.block g hg2 hgb) (fun j hj => by
            rw [List.length_map, hyl] at hj
            have := hS.cell (10 + f + j) (by rw [stV_length, hcl8, htl]; omega)
            show (wr.cell? _).isSome = true
            rw [this]; rfl) (fun j _ => hS.frozen _) (oneB ys)
        rw [List.length_map, hyl, setCells_drewN] at h1
        exact h1
      have CF : Hid (∀ q, Calls Tryd.prog 20 #[.pointer (some ⟨b, 0, none⟩)] (wr.drewN q) fun e w' => e = .returned (.int .i64 (f : Int)) ∧ w' = (wr.drewN q).drewN 1) := fun q => by
        have := filled_any b h (cF h mm) mm.length (tF h mm) (wr.drewN q) (hS.drewN q) hcl8 (by rw [HK.out trivial]; exact hbp.1) (by omega)
        rw [HK.out trivial, hf] at this
        exact this
      have HS : Hid (Cl wr b (stV h (cF h mm) mm.length (tF h mm))) := hS
      have Hys : Hid (True → ys = (x.drop k).take n ∧ mm = m ++ x.take k ∧ mm.length % K = f ∧ n = min (x.length - k) (K - f)) := fun _ => ⟨hys, hmm, hf, hn⟩
      have hyl2 : ys.length ≤ n ∧ n ≤ ys.length := by omega
      have hml2 : mm.length ≤ m.length + k ∧ m.length + k ≤ mm.length := by omega
      have hsl' : ∀ q, (Instr.sliceAt 44 (.pointer (some ⟨b, 10, none⟩)) (some (.int .i64 (f : Int))) (some (.int .i64 (K : Int))) none).run Tryd.prog (wr.drewN q) = .ok (.slice (some ⟨b, 10 + f, none⟩) (K - f) (128 - f)) (wr.drewN q) := fun q => tail_slice b f K (wr.drewN q) (f : Int) (K : Int) rfl rfl (by omega) (by omega) (by omega)
      clear hys hmm hf hn hyl hml hcl8 htl hS hsl hne hst
      rename ao = _ => hao
      clear hao
      go_wp2
      go_region_with (go_at_call 20; refine (CF.out _).mono ?_; rintro e w4 ⟨rfl, rfl⟩)
      obtain ⟨tl, htl⟩ : ∃ tl, tl = (tF h mm).take f ++ ys ++ (tF h mm).drop (f + ys.length) := ⟨_, rfl⟩
      have HC2 : Hid (Cl (wr.setCells b (10 + f) (ys.map B)) b (stV h (cF h mm) mm.length tl)) := by
        have h1 := Cl.cells (ys.map B) (10 + f) wr _ HS.out (by rw [stV_length, cF_length, tF_length hh, List.length_map]; omega)
        rw [spl_tail h (cF h mm) mm.length (tF h mm) (cF_length h mm) f ys, ← htl] at h1
        exact h1
      have HB2 : Hid (But w (wr.setCells b (10 + f) (ys.map B)) b) := But.cells _ _ _ _ hbut.out
      have HTL : Hid (True → tl = (tF h mm).take f ++ ys ++ (tF h mm).drop (f + ys.length)) := fun _ => htl
      have htl2 : tl.length = 128 := by rw [htl]; have := tF_length hh mm; simp; omega
      clear htl hcp hsl' HS CF hbut HH
      generalize wr.setCells b (10 + f) (ys.map B) = wq at *
      have g9 := stV_count HC2.out (cF_length h mm)
      have f9 := HC2.out.frozen 9
      have hwc : IntKind.u64.wrap ((mm.length : Int) + (n : Int)) = ((mm.length + n : Nat) : Int) := by rw [IntKind.wrap_u64]; omega
      obtain ⟨a2, hs3, ha2⟩ := slice_low g (off + k) (x.length - k) (cap - k) n (by omega) (by omega)
      go_wp2_with fail
      have HC3 : Hid (Cl ((wq.drewN 2).setCell ⟨b, 9, none⟩ (.int .u64 ((mm.length : Int) + (n : Int)))) b (stV h (cF h mm) (mm.length + n) tl)) := by
        have h1 := (HC2.out.drewN 2).set 9 (.int .u64 ((mm.length + n : Nat) : Int))
        rw [stV_setcount _ _ _ _ _ (cF_length h mm)] at h1
        rw [show (mm.length : Int) + (n : Int) = ((mm.length + n : Nat) : Int) by omega]
        exact h1
      have HB3 : Hid (But w ((wq.drewN 2).setCell ⟨b, 9, none⟩ (.int .u64 ((mm.length : Int) + (n : Int)))) b) := (HB2.out.drewN 2).set _ _
      generalize (wq.drewN 2).setCell ⟨b, 9, none⟩ (.int .u64 ((mm.length : Int) + (n : Int))) = we at *
      have CF2 := filled_any b h (cF h mm) (mm.length + n) tl we HC3.out (cF_length h mm) (by rw [HK.out trivial]; exact hbp.1) (by omega)
      rw [HK.out trivial] at CF2
      clear HC2 HB2 g9 f9 hwc hs3
      have hyn : ys.length = n := by omega
      have Hnext : Hid (True → m ++ x.take (k + n) = mm ++ ys) := fun _ => by
        obtain ⟨e1, e2, _, _⟩ := Hys.out trivial
        rw [e1, e2, List.append_assoc, List.take_add]
      by_cases hfull : f + n < K
      · have hmod := div_less mm.length n K hbp.1 (by rw [(Hys.out trivial).2.2.1]; exact hfull)
        rw [hmod.2, (Hys.out trivial).2.2.1] at CF2
        clear hmod
        have hfn : ((f + n : Nat) : Int) ≠ 0 := by omega
        refine CF2.mono ?_
        rintro e w5 ⟨rfl, rfl⟩
        clear CF2
        go_wp2
        refine ⟨⟨k + n, a2, by rw [Nat.sub_sub, Nat.sub_sub], by omega, fun h0 => by rw [ha2 (by omega), Nat.add_assoc], ?_, HB3.out.drewN 1⟩, ?_⟩
        · have h1 := app_less h mm ys (blk_pos hh) (by rw [HK.out trivial, (Hys.out trivial).2.2.1, hyn]; exact hfull)
          rw [HK.out trivial, (Hys.out trivial).2.2.1, ← HTL.out trivial] at h1
          rw [Hnext.out trivial]
          show Sta _ _ _ _
          unfold Sta
          rw [h1.1, h1.2, List.length_append, hyn]
          exact HC3.out.drewN 1
        · show x.length - k - n < x.length - k
          omega
      · have hfull2 : f + n = K := by omega
        have hmod := div_full mm.length n K hbp.1 (by rw [(Hys.out trivial).2.2.1]; exact hfull2)
        rw [hmod.2] at CF2
        clear hmod
        refine CF2.mono ?_
        rintro e w5 ⟨rfl, rfl⟩
        clear CF2
        go_wp2_with fail
        refine (mix_any b h (cF h mm) (mm.length + n) tl (we.drewN 1) (HC3.out.drewN 1) (cF_length h mm) htl2 ((HT.out.but HB3.out hb7).drewN 1) hb7).mono ?_
        rintro e w6 ⟨rfl, hc6, hb6⟩
        have HC6 : Hid (Cl w6 b (stV h (mixF h (cF h mm) tl) (mm.length + n) Z128)) := hc6
        have HB6 : Hid (But w w6 b) := (HB3.out.drewN 1).trans hb6
        clear hc6 hb6
        go_wp2
        refine ⟨⟨k + n, a2, by rw [Nat.sub_sub, Nat.sub_sub], by omega, fun h0 => by rw [ha2 (by omega), Nat.add_assoc], ?_, HB6⟩, ?_⟩
        · have h1 := app_full h mm ys (blk_pos hh) (by rw [HK.out trivial, (Hys.out trivial).2.2.1, hyn]; exact hfull2)
          rw [HK.out trivial, (Hys.out trivial).2.2.1, ← HTL.out trivial] at h1
          rw [Hnext.out trivial]
          show Sta _ _ _ _
          unfold Sta
          rw [h1.1, h1.2, List.length_append, hyn]
          exact HC6.out
        · show x.length - k - n < x.length - k
          omega
    · obtain rfl : k = x.length := by omega
      go_wp2
      go_end0
      refine ⟨rfl, ?_, hbut.out⟩
      have := hst.out
      rw [List.take_length] at this
      exact this
end Go.Proofs.YtpfdaclmchcbiaaDoor.Sha