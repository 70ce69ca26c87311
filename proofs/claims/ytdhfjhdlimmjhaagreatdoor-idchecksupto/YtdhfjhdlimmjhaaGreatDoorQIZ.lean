import Derived.Test.YtdhfjhdlimmjhaaGreatDoorWAll
import Derived.Test.YtdhfjhdlimmjhaaGreatDoorQDZ
namespace Go.Proofs.YtdhfjhdlimmjhaaGreatDoor
open Go.RowKit Go.Shelf

theorem at_of_w {v : List Nd} (h : Sq 0 [[]] v) (hl : v.length ≤ 100000000) {i : Nat} (hi : i < v.length) : At v i := by
  obtain ⟨d, n, ks, r, pre, post, hd, hv, hp, hw, hr, hn, hk⟩ := h.at i hi
  have hlen : v.length = pre.length + (1 + r.length + post.length) := by rw [hv]; simp; omega
  have hg : v.getD i (nd0 0) = n := by rw [hv, ← hp]; simp
  have hb : bhN v i = i + (1 + r.length) := by
    rw [← hp, Sq.behind (Sq.one hw hr hn hk) (pre := pre) (post := post) (v := v) hv (by simp only [List.length_cons]; omega)]
    simp only [List.length_cons]
    omega
  have hpl : (pre ++ [n]).length = i + 1 := by simp [hp]
  have hkid := hr.kids (pre ++ [n]) post v (v.length + 1) (by rw [hv]; simp) (by omega) (by omega)
  rw [hpl, ← hn] at hkid
  have hkF : kidsF v (i : Int) = kidsL v (v.length + 1) (i + 1) n.kids := by
    unfold kidsF
    rw [if_pos ⟨by omega, by omega⟩, Int.toNat_natCast, hg]
  refine ⟨?_, ?_, ?_, ?_, ?_⟩
  · rw [hkF, hb, show i + (1 + r.length) = i + 1 + r.length by omega]
    exact hkid.1
  · rw [hkF, hg, hn]
    have := congrArg List.length hkid.2
    rw [List.length_map, hn] at this
    omega
  · intro h7 j hj
    rw [hg] at h7
    unfold memF
    rw [if_pos ⟨by omega, by omega, by rw [Int.toNat_natCast, hg]; exact h7⟩]
    refine mem_first v _ ?_ j hj
    rw [hkF, hkid.2]
    exact (hk.2 h7).2
  · intro h7
    unfold memF
    rw [if_neg]
    intro hh
    rw [Int.toNat_natCast] at hh
    exact h7 hh.2.2
  · rw [hg, hb, show i + (1 + r.length) - (i + 1) = r.length by omega]
    have e1 : (v.drop (i + 1)).take r.length = r := by
      rw [hv, show pre ++ ((n :: r) ++ post) = (pre ++ [n]) ++ (r ++ post) by simp, ← hpl, List.drop_left, List.take_left]
    rw [e1]
    exact Sq.shaped (Sq.one (n := { n with key := [] }) (wm_key [] (wm_low hw hd)) (hr.low (by omega)) hn hk)

theorem all_of_w {v : List Nd} (h : Sq 0 [[]] v) (hl : v.length ≤ 100000000) : 0 < v.length ∧ bhN v 0 = v.length := by
  have h1 := h.len
  have h2 := Sq.behind h (pre := []) (post := []) (v := v) (by simp) (by omega)
  simp at h1 h2
  exact ⟨h1, h2⟩

set_option maxRecDepth 100000 in
set_option maxHeartbeats 4000000 in
theorem rbehind_step_w (n : Nat) (ih : ∀ (l : List Nd) (ao : Option Addr) (cap i : Nat) (w : World), NR w (.slice ao l.length cap) l ao cap → l.length ≤ 100000000 → (∀ i, i < l.length → At l i) → i < l.length → l.length - i ≤ n → Calls Tryz.prog 60 #[.slice ao l.length cap, .int .i64 (i : Int)] w fun e w' => e = .returned (.int .i64 (bhN l i : Int)) ∧ w' = w)
    (l : List Nd) (ao : Option Addr) (cap i : Nat) (w : World) (h : NR w (.slice ao l.length cap) l ao cap) (hl : l.length ≤ 100000000) (hA : ∀ i, i < l.length → At l i) (hi : i < l.length) (hn : l.length - i ≤ n + 1) :
    Calls Tryz.prog 60 #[.slice ao l.length cap, .int .i64 (i : Int)] w fun e w' => e = .returned (.int .i64 (bhN l i : Int)) ∧ w' = w := by
  obtain ⟨_, hc, _⟩ := id h
  have hat := hA i hi
  obtain ⟨K, hK⟩ : ∃ K, (l.getD i (nd0 0)).kids = K := ⟨_, rfl⟩
  obtain ⟨L, hL⟩ : ∃ L, kidsF l (i : Int) = L := ⟨_, rfl⟩
  have hlt : ∀ k ∈ L, k < l.length := by rw [← hL]; exact fun k hk => kidsF_lt k hk
  have hch := hat.ch
  have hln := hat.ln
  rw [hL] at hch hln
  rw [hK] at hln
  subst hln
  have HC : Hid (Ch l (i + 1) L (bhN l i)) := hch
  have HLt : Hid (∀ k ∈ L, k < l.length) := hlt
  have HI : Hid (∀ (k : Nat) (wq : World), i < k → k < l.length → NR wq (.slice ao l.length cap) l ao cap → Calls Tryz.prog 60 #[.slice ao l.length cap, .int .i64 (k : Int)] wq fun e w' => e = .returned (.int .i64 (bhN l k : Int)) ∧ w' = wq) := fun k wq h1 h2 h3 => ih l ao cap k wq h3 hl hA h2 (by omega)
  have HN : Hid (NR w (.slice ao l.length cap) l ao cap) := h
  obtain ⟨g, off, rfl, _⟩ := h.at hi
  clear ih hA hat hch hlt hL h hn
  have q0 : decide ((i : Int) < 0) = false := decide_eq_false (by omega)
  have q1 : decide ((i : Int) ≥ (l.length : Int)) = false := decide_eq_false (by omega)
  have q2 : decide (l.length ≤ i) = false := decide_eq_false (by omega)
  go_enter Tryz.func60, Tryz.ntmps60
  go_wp2
  go_loopw [5, 6] (fun s5 s6 wx => ∃ (j k : Nat), s5 = .int .i64 k ∧ s6 = .int .i64 j ∧ j ≤ L.length ∧ i < k ∧ j < k ∧ k ≤ l.length ∧ Ch l k (L.drop j) (bhN l i) ∧ wx = w) (fun _ s _ => L.length - (intOf s).toNat)
  case atStart => exact ⟨0, i + 1, by go_num, rfl, Nat.zero_le _, by omega, by omega, by omega, HC.out, rfl⟩
  case round =>
    obtain ⟨j, k, rfl, rfl, hj, hik, hjk, hkl, hch, rfl⟩ := hrel
    obtain ⟨_, _, e', hcell⟩ := HN.out.at hi
    cases e'
    have ck := hcell 5 (.int .i64 (L.length : Int)) (by omega) (by rw [← hK]; rfl)
    clear hcell
    have qk : decide ((k : Int) ≥ 0) = true := decide_eq_true (by omega)
    by_cases hlt : j < L.length
    · have qj : decide ((j : Int) < (L.length : Int)) = true := decide_eq_true (by omega)
      obtain ⟨hg, hch2⟩ := hch.step hlt
      have hk2 : k < l.length := by
        rw [← hg]
        refine HLt.out _ ?_
        rw [List.getD_eq_getElem?_getD, List.getElem?_eq_getElem hlt]
        exact List.getElem_mem hlt
      have hb1 := bhN_gt hk2
      have hb2 := bhN_le (v := l) (i := k) (by omega)
      have HC2 : Hid (Ch l (bhN l k) (L.drop (j + 1)) (bhN l i)) := hch2
      have HCB : Hid (∀ wq, NR wq (.slice (some ⟨g, off, none⟩) l.length cap) l (some ⟨g, off, none⟩) cap → Calls Tryz.prog 60 #[.slice (some ⟨g, off, none⟩) l.length cap, .int .i64 (k : Int)] wq fun e w' => e = .returned (.int .i64 (bhN l k : Int)) ∧ w' = wq) := fun wq hq => HI.out k wq hik hk2 hq
      clear hch hch2 hg
      generalize bhN l k = kb at *
      have C1 := HCB.out wr HN.out
      clear HCB HI
      go_wp2_with fail
      refine C1.mono ?_
      clear C1
      rintro e w1 ⟨rfl, rfl⟩
      go_wp2
      go_roundw
      case rel => exact ⟨j + 1, kb, rfl, by go_num, by omega, by omega, by omega, hb2, HC2.out, trivial⟩
      case measure => simp [intOf]; omega
    · have qj : decide ((j : Int) < (L.length : Int)) = false := decide_eq_false (by omega)
      have hst := hch.stop (by omega)
      subst hst
      clear hch
      go_wp2
      go_ret
      exact ⟨rfl, rfl⟩

theorem rbehind_any_w : ∀ (n : Nat) (l : List Nd) (ao : Option Addr) (cap i : Nat) (w : World), NR w (.slice ao l.length cap) l ao cap → l.length ≤ 100000000 → (∀ i, i < l.length → At l i) → i < l.length → l.length - i ≤ n → Calls Tryz.prog 60 #[.slice ao l.length cap, .int .i64 (i : Int)] w fun e w' => e = .returned (.int .i64 (bhN l i : Int)) ∧ w' = w
  | 0, _, _, _, _, _, _, _, _, h1, h2 => by omega
  | n + 1, l, ao, cap, i, w, h, hl, hA, h1, h2 => rbehind_step_w n (rbehind_any_w n) l ao cap i w h hl hA h1 h2

set_option maxRecDepth 100000 in
set_option maxHeartbeats 4000000 in
theorem rkids_any_w (l : List Nd) (ao : Option Addr) (cap i : Nat) (w : World) (h : NR w (.slice ao l.length cap) l ao cap) (hl : l.length ≤ 100000000) (hA : ∀ i, i < l.length → At l i) (hi : i < l.length) :
    Calls Tryz.prog 45 #[.slice ao l.length cap, .int .i64 (i : Int)] w fun e w' => ∃ r, e = .returned r ∧ OI w.heap.size w w' r (kidsF l (i : Int)) := by
  obtain ⟨_, hc, _⟩ := id h
  have hat := hA i hi
  obtain ⟨K, hK⟩ : ∃ K, (l.getD i (nd0 0)).kids = K := ⟨_, rfl⟩
  obtain ⟨L, hL⟩ : ∃ L, kidsF l (i : Int) = L := ⟨_, rfl⟩
  have hlt : ∀ k ∈ L, k < l.length := by rw [← hL]; exact fun k hk => kidsF_lt k hk
  have hch := hat.ch
  have hln := hat.ln
  rw [hL] at hch hln
  rw [hK] at hln
  rw [hL]
  subst hln
  have HC : Hid (Ch l (i + 1) L (bhN l i)) := hch
  have HLt : Hid (∀ k ∈ L, k < l.length) := hlt
  have HI : Hid (∀ (k : Nat) (wq : World), k < l.length → NR wq (.slice ao l.length cap) l ao cap → Calls Tryz.prog 60 #[.slice ao l.length cap, .int .i64 (k : Int)] wq fun e w' => e = .returned (.int .i64 (bhN l k : Int)) ∧ w' = wq) := fun k wq h2 h3 => rbehind_any_w l.length l ao cap k wq h3 hl hA h2 (by omega)
  have HN : Hid (∀ wq, Below w.heap.size w wq → NR wq (.slice ao l.length cap) l ao cap) := fun wq hq => h.below hq (Nat.le_refl _)
  obtain ⟨g, off, rfl, _⟩ := h.at hi
  clear hA hat hch hlt hL h
  have q0 : decide ((i : Int) < 0) = false := decide_eq_false (by omega)
  have q1 : decide ((i : Int) ≥ (l.length : Int)) = false := decide_eq_false (by omega)
  have q2 : decide (l.length ≤ i) = false := decide_eq_false (by omega)
  go_enter Tryz.func45, Tryz.ntmps45
  go_wp2
  go_loopw [5, 6, 7] (fun s5 s6 s7 wx => ∃ (j k : Nat), s6 = .int .i64 k ∧ s7 = .int .i64 j ∧ j ≤ L.length ∧ i < k ∧ j < k ∧ k ≤ l.length ∧ OI w.heap.size w wx s5 (L.take j) ∧ Ch l k (L.drop j) (bhN l i)) (fun _ _ s _ => L.length - (intOf s).toNat)
  case atStart => exact ⟨0, i + 1, by go_num, rfl, Nat.zero_le _, by omega, by omega, by omega, ⟨World.ownsRow_nil _ _ _ _, Below.refl _ _⟩, HC.out⟩
  case round =>
    obtain ⟨j, k, rfl, rfl, hj, hik, hjk, hkl, hoi, hch⟩ := hrel
    obtain ⟨_, _, e', hcell⟩ := (HN.out wr hoi.bel).at hi
    cases e'
    have ck := hcell 5 (.int .i64 (L.length : Int)) (by omega) (by rw [← hK]; rfl)
    clear hcell
    have HO : Hid (OI w.heap.size w wr u5 (L.take j)) := hoi
    have qk : decide ((k : Int) ≥ 0) = true := decide_eq_true (by omega)
    by_cases hlt : j < L.length
    · have qj : decide ((j : Int) < (L.length : Int)) = true := decide_eq_true (by omega)
      obtain ⟨hg, hch2⟩ := hch.step hlt
      have hk2 : k < l.length := by
        rw [← hg]
        refine HLt.out _ ?_
        rw [List.getD_eq_getElem?_getD, List.getElem?_eq_getElem hlt]
        exact List.getElem_mem hlt
      have qk2 : decide ((k : Int) < (l.length : Int)) = true := decide_eq_true (by omega)
      have hb1 := bhN_gt hk2
      have hb2 := bhN_le (v := l) (i := k) (by omega)
      have HC2 : Hid (Ch l (bhN l k) (L.drop (j + 1)) (bhN l i)) := hch2
      have HT : Hid (L.take j ++ [k] = L.take (j + 1)) := by
        show _ = _
        rw [← hg, List.take_add_one, List.getElem?_eq_getElem hlt, List.getD_eq_getElem?_getD, List.getElem?_eq_getElem hlt]
        rfl
      have HCB : Hid (∀ wq, NR wq (.slice (some ⟨g, off, none⟩) l.length cap) l (some ⟨g, off, none⟩) cap → Calls Tryz.prog 60 #[.slice (some ⟨g, off, none⟩) l.length cap, .int .i64 (k : Int)] wq fun e w' => e = .returned (.int .i64 (bhN l k : Int)) ∧ w' = wq) := fun wq hq => HI.out k wq hk2 hq
      clear hch hch2 hg hoi
      generalize bhN l k = kb at *
      go_wp2_with (at_builtin; refine append_int (wr := wr) rfl (.tmp 38) (.tmp 40) rfl w.heap.size w _ (L.take j) k rfl HO.out rfl (by simp; omega) (Nat.le_refl _) ?_; intro v5 w5 h5)
      rw [HT.out] at h5
      have HO2 : Hid (OI w.heap.size w w5 v5 (L.take (j + 1))) := h5
      have C2 := HCB.out w5 (HN.out w5 h5.bel)
      clear h5 HCB HI HO
      go_wp2_with fail
      refine C2.mono ?_
      clear C2
      rintro e w6 ⟨rfl, rfl⟩
      go_wp2
      go_roundw
      case rel => exact ⟨j + 1, kb, rfl, by go_num, by omega, by omega, by omega, hb2, HO2.out, HC2.out⟩
      case measure => simp [intOf]; omega
    · have qj : decide ((j : Int) < (L.length : Int)) = false := decide_eq_false (by omega)
      have hst : j = L.length := by omega
      have HE : Hid (L.take j = L) := by show _ = _; rw [hst, List.take_length]
      clear hch hoi
      go_wp2
      go_ret
      rw [HE.out] at HO
      exact ⟨_, rfl, HO.out⟩

set_option maxRecDepth 100000 in
set_option maxHeartbeats 4000000 in
theorem rmember_any_w (l : List Nd) (ao : Option Addr) (cap i : Nat) (key : List UInt8) (w : World) (h : NR w (.slice ao l.length cap) l ao cap) (hl : l.length ≤ 100000000) (hA : ∀ i, i < l.length → At l i) (hi : i < l.length) :
    Calls Tryz.prog 31 #[.slice ao l.length cap, .int .i64 (i : Int), .string ⟨key.toArray⟩] w fun e w' => e = .returned (.int .i64 (memF l (i : Int) key)) ∧ Below w.heap.size w w' := by
  obtain ⟨_, hc, _⟩ := id h
  obtain ⟨K, hK⟩ : ∃ K, (l.getD i (nd0 0)).kind = K := ⟨_, rfl⟩
  have CK := rkids_any_w l ao cap i w h hl hA hi
  have HN : Hid (NR w (.slice ao l.length cap) l ao cap) := h
  obtain ⟨g, off, rfl, hcell⟩ := h.at hi
  have ck := hcell 0 (.int .i64 K) (by omega) (by rw [← hK]; rfl)
  rw [Nat.add_zero] at ck
  have HLT : Hid (∀ k ∈ kidsF l (i : Int), k < l.length) := kidsF_lt
  have q0 : decide ((i : Int) < 0) = false := decide_eq_false (by omega)
  have q1 : decide ((i : Int) ≥ (l.length : Int)) = false := decide_eq_false (by omega)
  have q2 : decide (l.length ≤ i) = false := decide_eq_false (by omega)
  by_cases hk7 : K = 7
  · have HF : Hid (memF l (i : Int) key = memL l key (kidsF l (i : Int))) := by show _ = _; unfold memF; rw [if_pos ⟨by omega, by omega, by rw [Int.toNat_natCast, hK]; exact hk7⟩]
    have hlen : (kidsF l (i : Int)).length ≤ 1000000000 := by
      unfold kidsF
      rw [if_pos ⟨by omega, by omega⟩]
      have := kidsF_len (v := l) (l.length + 1) (i + 1) (l.getD i (nd0 0)).kids (by omega)
      rw [Int.toNat_natCast]
      omega
    subst hk7
    generalize kidsF l (i : Int) = L at *
    generalize memF l (i : Int) key = M at *
    clear h hcell hK hA
    go_enter Tryz.func31, Tryz.ntmps31
    go_wp2_with fail
    refine CK.mono ?_
    clear CK
    rintro e w2 ⟨r, rfl, hoi⟩
    obtain ⟨ka, kc, rfl, hkc, hkat⟩ := hoi.at
    have HO : Hid (OI w.heap.size w w2 (.slice ka L.length kc) L) := hoi
    have HAT : Hid (∀ j, j < L.length → ∃ g, ka = some ⟨g, 0, none⟩ ∧ w2.cell? ⟨g, j, none⟩ = some (iV (L.getD j 0))) := hkat
    have HN2 : Hid (NR w2 (.slice (some ⟨g, off, none⟩) l.length cap) l (some ⟨g, off, none⟩) cap) := HN.out.below hoi.bel (Nat.le_refl _)
    clear hoi hkat ck
    go_wp2
    go_loop [8] (fun s => ∃ j : Nat, s = .int .i64 j ∧ j ≤ L.length ∧ memL l key (L.drop j) = M) (fun s => L.length - (intOf s).toNat)
    case atStart => exact ⟨0, rfl, Nat.zero_le _, HF.out.symm⟩
    case round =>
      obtain ⟨j, rfl, hj, hm⟩ := hrel
      have HM : Hid (memL l key (L.drop j) = M) := hm
      clear hm
      by_cases hjl : j < L.length
      · have q3 : decide ((j : Int) < (L.length : Int)) = true := by simp; omega
        obtain ⟨kg, rfl, ckj⟩ := HAT.out j hjl
        have hm2 := HM.out
        rw [memL_cons hjl] at hm2
        have hkl : L.getD j 0 < l.length := HLT.out _ (by rw [List.getD_eq_getElem?_getD, List.getElem?_eq_getElem hjl]; exact List.getElem_mem hjl)
        generalize L.getD j 0 = k at *
        have HM2 : Hid ((if (l.getD k (nd0 0)).key = key then (k : Int) else memL l key (L.drop (j + 1))) = M) := hm2
        obtain ⟨g', off', e', hc2⟩ := HN2.out.at hkl
        cases e'
        obtain ⟨Y, hY⟩ : ∃ Y, (l.getD k (nd0 0)).key = Y := ⟨_, rfl⟩
        have cky := hc2 1 (.string ⟨Y.toArray⟩) (by omega) (by rw [← hY]; rfl)
        unfold iV at ckj
        rw [hY] at HM2
        clear hm2 hc2 hY HM
        by_cases hYk : Y = key
        · have HE : Hid (M = (k : Int)) := by show _ = _; rw [← HM2.out, if_pos hYk]
          subst hYk
          clear HM2
          go_wp2
          go_ret
          rw [HE.out]
          exact ⟨rfl, HO.out.bel⟩
        · have HE : Hid (memL l key (L.drop (j + 1)) = M) := by show _ = _; rw [← HM2.out, if_neg hYk]
          have hYb : (Y == key) = false := by simpa using hYk
          clear HM2 hYk
          go_wp2
          go_round
          case rel => exact ⟨j + 1, by go_num, by omega, HE.out⟩
          case measure => simp [intOf]; omega
      · have q3 : decide ((j : Int) < (L.length : Int)) = false := by simp; omega
        have HE : Hid (M = -1) := by show _ = _; rw [← HM.out, List.drop_eq_nil_of_le (by omega)]; rfl
        clear HM
        go_wp2
        go_ret
        rw [HE.out]
        exact ⟨rfl, HO.out.bel⟩
  · have HF : Hid (memF l (i : Int) key = -1) := by show _ = _; unfold memF; rw [if_neg (by rw [Int.toNat_natCast, hK]; exact fun hx => hk7 hx.2.2)]
    have hkb : (K != 7) = true := by simpa using hk7
    clear h hcell hK CK hA
    go_enter Tryz.func31, Tryz.ntmps31
    go_wp2
    go_ret
    rw [HF.out]
    exact ⟨rfl, Below.refl _ _⟩

end Go.Proofs.YtdhfjhdlimmjhaaGreatDoor

namespace Go.Proofs.YtdhfjhdlimmjhaaGreatDoor
open Go.RowKit
set_option maxRecDepth 100000

theorem rmem_any (l : List Nd) (ao : Option Addr) (cap : Nat) (k : List UInt8) (w : World) (h : NR w (.slice ao l.length cap) l ao cap) (hl : l.length ≤ 100000000) (hs : shapedF l = true) :
    Calls Tryz.prog 31 #[.slice ao l.length cap, .int .i64 0, .string ⟨k.toArray⟩] w fun e w' => e = .returned (.int .i64 (memF l 0 k)) ∧ Below w.heap.size w w' :=
  rmember_any_w l ao cap 0 k w h hl (fun _ hi => at_of_w (shaped_sq hs) hl hi) (all_of_w (shaped_sq hs) hl).1

set_option maxRecDepth 100000 in
set_option maxHeartbeats 4000000 in
theorem rsaid_any (l : List Nd) (ao : Option Addr) (cap : Nat) (k t : List UInt8) (w : World) (h : NR w (.slice ao l.length cap) l ao cap) (hl : l.length ≤ 100000000) (hs : shapedF l = true) :
    Calls Tryz.prog 16 #[.slice ao l.length cap, .string ⟨k.toArray⟩, .string ⟨t.toArray⟩] w fun e w' => e = .returned (.bool (sayF (nM l k) t)) ∧ Below w.heap.size w w' := by
  have CM := rmem_any l ao cap k w h hl hs
  have HF : Hid (nM l k = if memF l 0 k < 0 then nd0 0 else l.getD (memF l 0 k).toNat (nd0 0)) := rfl
  have hlt : ∀ i ∈ kidsF l 0, i < l.length := kidsF_lt
  generalize nM l k = nn at *
  rcases mem_in l k with e | ⟨i, hi, e, _⟩
  · rw [e] at CM HF
    have HF2 : Hid (nn = nd0 0) := by show _ = _; rw [HF.out]; rfl
    clear hlt e HF h hl hs
    go_enter Tryz.func16, Tryz.ntmps16
    go_wp2_with fail
    refine CM.mono ?_
    clear CM
    rintro e w1 ⟨rfl, hB⟩
    have HB : Hid (Below w.heap.size w w1) := hB
    clear hB
    go_wp2
    go_ret
    exact ⟨by rw [HF2.out]; rfl, HB.out⟩
  · have hil := hlt i hi
    rw [e] at CM HF
    have HF2 : Hid (nn = l.getD i (nd0 0)) := by show _ = _; rw [HF.out, if_neg (by omega), Int.toNat_natCast]
    have q0 : decide ((i : Int) ≥ 0) = true := decide_eq_true (by omega)
    have q0' : decide (0 ≤ (i : Int)) = true := decide_eq_true (by omega)
    have q1 : (i : Int) < (l.length : Int) := by omega
    clear hlt e HF hi
    have HNq : Hid (∀ wq, Below w.heap.size w wq → NR wq (.slice ao l.length cap) l ao cap) := fun wq hq => h.below hq (Nat.le_refl _)
    clear h hs
    obtain ⟨n, hn⟩ : ∃ n, l.getD i (nd0 0) = n := ⟨_, rfl⟩
    rw [hn] at HF2
    have HN : Hid (l.getD i (nd0 0) = n) := hn
    clear hn
    by_cases h5 : n.kind = 5
    · by_cases ht : n.text = t
      · have qt : (n.text == t) = true := by simpa using ht
        have HR : Hid (sayF nn t = true) := by show _ = _; rw [HF2.out]; unfold sayF; rw [decide_eq_true h5, decide_eq_true ht]; rfl
        clear ht HF2
        go_enter Tryz.func16, Tryz.ntmps16
        go_wp2_with fail
        refine CM.mono ?_
        clear CM
        rintro e w1 ⟨rfl, hB⟩
        have HB : Hid (Below w.heap.size w w1) := hB
        obtain ⟨gv, off, hav, hc2⟩ := (HNq.out w1 hB).at hil
        rw [HN.out] at hc2
        subst hav
        have k0 : w1.cell? ⟨gv, off + i * 6, none⟩ = some (.int .i64 n.kind) := hc2 0 _ (by omega) rfl
        have k2 : w1.cell? ⟨gv, off + i * 6 + 2, none⟩ = some (.string ⟨n.text.toArray⟩) := hc2 2 _ (by omega) rfl
        clear hB hc2 HNq HN
        rw [h5] at k0
        generalize n.text = tx at *
        go_wp2
        go_ret
        exact ⟨by rw [HR.out]; rfl, HB.out⟩
      · have qt : (n.text == t) = false := by simpa using ht
        have HR : Hid (sayF nn t = false) := by show _ = _; rw [HF2.out]; unfold sayF; rw [decide_eq_true h5, decide_eq_false ht]; rfl
        clear ht HF2
        go_enter Tryz.func16, Tryz.ntmps16
        go_wp2_with fail
        refine CM.mono ?_
        clear CM
        rintro e w1 ⟨rfl, hB⟩
        have HB : Hid (Below w.heap.size w w1) := hB
        obtain ⟨gv, off, hav, hc2⟩ := (HNq.out w1 hB).at hil
        rw [HN.out] at hc2
        subst hav
        have k0 : w1.cell? ⟨gv, off + i * 6, none⟩ = some (.int .i64 n.kind) := hc2 0 _ (by omega) rfl
        have k2 : w1.cell? ⟨gv, off + i * 6 + 2, none⟩ = some (.string ⟨n.text.toArray⟩) := hc2 2 _ (by omega) rfl
        clear hB hc2 HNq HN
        rw [h5] at k0
        generalize n.text = tx at *
        go_wp2
        go_ret
        exact ⟨by rw [HR.out]; rfl, HB.out⟩
    · have q5 : (n.kind == 5) = false := by simpa using h5
      have HR : Hid (sayF nn t = false) := by show _ = _; rw [HF2.out]; unfold sayF; rw [decide_eq_false h5]; rfl
      clear HF2 h5
      go_enter Tryz.func16, Tryz.ntmps16
      go_wp2_with fail
      refine CM.mono ?_
      clear CM
      rintro e w1 ⟨rfl, hB⟩
      have HB : Hid (Below w.heap.size w w1) := hB
      obtain ⟨gv, off, hav, hc2⟩ := (HNq.out w1 hB).at hil
      rw [HN.out] at hc2
      subst hav
      have k0 : w1.cell? ⟨gv, off + i * 6, none⟩ = some (.int .i64 n.kind) := hc2 0 _ (by omega) rfl
      have k2 : w1.cell? ⟨gv, off + i * 6 + 2, none⟩ = some (.string ⟨n.text.toArray⟩) := hc2 2 _ (by omega) rfl
      clear hB hc2 HNq HN
      generalize n.kind = kd at *
      generalize n.text = tx at *
      go_wp2
      go_ret
      exact ⟨by rw [HR.out]; rfl, HB.out⟩


def oldD (l : List Nd) (age lee now : Int) : Bool := decide (memF l 0 kAuth < 0) || (!decide ((nM l kAuth).kind = 4)) || !(nM l kAuth).whole || lateF (nM l kAuth).int age lee now

set_option maxRecDepth 100000 in
set_option maxHeartbeats 8000000 in
theorem rold_any (c : Cm) (va : Option Addr) (vc : Nat) (aa : Option Addr) (ac : Nat) (tcl : List UInt8) (tno : List UInt8) (thN : Bool) (tac : List UInt8) (thA : Bool) (tco : List UInt8) (thC : Bool) (tag : Int) (thG : Bool) (tle : Int) (w : World) (H : LA w c va vc aa ac) (hs : shapedF c.val = true) (now : Int) :
    Calls Tryz.prog 18 #[.agg #[.slice va c.val.length vc, .string ⟨c.iss.toArray⟩, .bool c.hIss, .string ⟨c.sub.toArray⟩, .bool c.hSub, .slice aa c.aud.length ac, .bool c.hAud, .string ⟨c.jti.toArray⟩, .bool c.hJti, .bool c.exp.has, .int .i64 c.exp.at_, .bool c.nbf.has, .int .i64 c.nbf.at_, .bool c.iat.has, .int .i64 c.iat.at_], .agg #[.string ⟨tcl.toArray⟩, .string ⟨tno.toArray⟩, .bool thN, .string ⟨tac.toArray⟩, .bool thA, .string ⟨tco.toArray⟩, .bool thC, .int .i64 tag, .bool thG, .int .i64 tle], .int .i64 now] w fun e w' => e = .returned (.bool (oldD c.val tag tle now)) ∧ Below w.heap.size w w' := by
  obtain ⟨W, hW⟩ : ∃ x, ((w.alloc (.cells #[.slice va c.val.length vc, .string ⟨c.iss.toArray⟩, .bool c.hIss, .string ⟨c.sub.toArray⟩, .bool c.hSub, .slice aa c.aud.length ac, .bool c.hAud, .string ⟨c.jti.toArray⟩, .bool c.hJti, .bool c.exp.has, .int .i64 c.exp.at_, .bool c.nbf.has, .int .i64 c.nbf.at_, .bool c.iat.has, .int .i64 c.iat.at_] 27)).alloc (.cells #[.string ⟨tcl.toArray⟩, .string ⟨tno.toArray⟩, .bool thN, .string ⟨tac.toArray⟩, .bool thA, .string ⟨tco.toArray⟩, .bool thC, .int .i64 tag, .bool thG, .int .i64 tle] 30)) = x := ⟨_, rfl⟩
  have HBW : Hid (Below w.heap.size w W) := by
    rw [← hW]
    have h1 := alloc_below9 w (.cells #[.slice va c.val.length vc, .string ⟨c.iss.toArray⟩, .bool c.hIss, .string ⟨c.sub.toArray⟩, .bool c.hSub, .slice aa c.aud.length ac, .bool c.hAud, .string ⟨c.jti.toArray⟩, .bool c.hJti, .bool c.exp.has, .int .i64 c.exp.at_, .bool c.nbf.has, .int .i64 c.nbf.at_, .bool c.iat.has, .int .i64 c.iat.at_] 27)
    exact h1.trans ((alloc_below9 _ _).mono h1.size)
  have HBc : Hid (∀ wq, Below W.heap.size W wq → Bl 27 wq w.heap.size [.slice va c.val.length vc, .string ⟨c.iss.toArray⟩, .bool c.hIss, .string ⟨c.sub.toArray⟩, .bool c.hSub, .slice aa c.aud.length ac, .bool c.hAud, .string ⟨c.jti.toArray⟩, .bool c.hJti, .bool c.exp.has, .int .i64 c.exp.at_, .bool c.nbf.has, .int .i64 c.nbf.at_, .bool c.iat.has, .int .i64 c.iat.at_]) := fun wq hq => by
    have h1 : Bl 27 _ w.heap.size [.slice va c.val.length vc, .string ⟨c.iss.toArray⟩, .bool c.hIss, .string ⟨c.sub.toArray⟩, .bool c.hSub, .slice aa c.aud.length ac, .bool c.hAud, .string ⟨c.jti.toArray⟩, .bool c.hJti, .bool c.exp.has, .int .i64 c.exp.at_, .bool c.nbf.has, .int .i64 c.nbf.at_, .bool c.iat.has, .int .i64 c.iat.at_] := alloc_bl w [.slice va c.val.length vc, .string ⟨c.iss.toArray⟩, .bool c.hIss, .string ⟨c.sub.toArray⟩, .bool c.hSub, .slice aa c.aud.length ac, .bool c.hAud, .string ⟨c.jti.toArray⟩, .bool c.hJti, .bool c.exp.has, .int .i64 c.exp.at_, .bool c.nbf.has, .int .i64 c.nbf.at_, .bool c.iat.has, .int .i64 c.iat.at_] 27
    have h2 : Bl 27 W w.heap.size [.slice va c.val.length vc, .string ⟨c.iss.toArray⟩, .bool c.hIss, .string ⟨c.sub.toArray⟩, .bool c.hSub, .slice aa c.aud.length ac, .bool c.hAud, .string ⟨c.jti.toArray⟩, .bool c.hJti, .bool c.exp.has, .int .i64 c.exp.at_, .bool c.nbf.has, .int .i64 c.nbf.at_, .bool c.iat.has, .int .i64 c.iat.at_] := by rw [← hW]; exact h1.below (alloc_below9 _ _) h1.lt
    exact h2.below hq h2.lt
  have HBt : Hid (∀ wq, Below W.heap.size W wq → Bl 30 wq (w.heap.size + 1) [.string ⟨tcl.toArray⟩, .string ⟨tno.toArray⟩, .bool thN, .string ⟨tac.toArray⟩, .bool thA, .string ⟨tco.toArray⟩, .bool thC, .int .i64 tag, .bool thG, .int .i64 tle]) := fun wq hq => by
    have h1 := alloc_bl (w.alloc (.cells #[.slice va c.val.length vc, .string ⟨c.iss.toArray⟩, .bool c.hIss, .string ⟨c.sub.toArray⟩, .bool c.hSub, .slice aa c.aud.length ac, .bool c.hAud, .string ⟨c.jti.toArray⟩, .bool c.hJti, .bool c.exp.has, .int .i64 c.exp.at_, .bool c.nbf.has, .int .i64 c.nbf.at_, .bool c.iat.has, .int .i64 c.iat.at_] 27)) [.string ⟨tcl.toArray⟩, .string ⟨tno.toArray⟩, .bool thN, .string ⟨tac.toArray⟩, .bool thA, .string ⟨tco.toArray⟩, .bool thC, .int .i64 tag, .bool thG, .int .i64 tle] 30
    rw [alloc_size] at h1
    have h2 : Bl 30 W (w.heap.size + 1) [.string ⟨tcl.toArray⟩, .string ⟨tno.toArray⟩, .bool thN, .string ⟨tac.toArray⟩, .bool thA, .string ⟨tco.toArray⟩, .bool thC, .int .i64 tag, .bool thG, .int .i64 tle] := by rw [← hW]; exact h1
    exact h2.below hq h2.lt
  have HW : Hid (((w.alloc (.cells #[.slice va c.val.length vc, .string ⟨c.iss.toArray⟩, .bool c.hIss, .string ⟨c.sub.toArray⟩, .bool c.hSub, .slice aa c.aud.length ac, .bool c.hAud, .string ⟨c.jti.toArray⟩, .bool c.hJti, .bool c.exp.has, .int .i64 c.exp.at_, .bool c.nbf.has, .int .i64 c.nbf.at_, .bool c.iat.has, .int .i64 c.iat.at_] 27)).alloc (.cells #[.string ⟨tcl.toArray⟩, .string ⟨tno.toArray⟩, .bool thN, .string ⟨tac.toArray⟩, .bool thA, .string ⟨tco.toArray⟩, .bool thC, .int .i64 tag, .bool thG, .int .i64 tle] 30)) = W) := hW
  have HLq : Hid (∀ wq, Below W.heap.size W wq → LA wq c va vc aa ac) := fun wq hq => H.below (HBW.out.trans (hq.mono HBW.out.size))
  have HSp : Hid (shapedF c.val = true) := hs
  clear hW H hs
  have CM : Calls Tryz.prog 31 #[.slice va c.val.length vc, .int .i64 0, .string ⟨#[97, 117, 116, 104, 95, 116, 105, 109, 101]⟩] W fun e w' => e = .returned (.int .i64 (memF c.val 0 kAuth)) ∧ Below W.heap.size W w' := rmem_any c.val va vc kAuth W (HLq.out W (Below.refl _ _)).nr (HLq.out W (Below.refl _ _)).ln HSp.out
  obtain ⟨M, hM⟩ : ∃ x, memF c.val 0 kAuth = x := ⟨_, rfl⟩
  have HX : Hid (oldD c.val tag tle now = (decide (M < 0) || (!decide ((nM c.val kAuth).kind = 4)) || !(nM c.val kAuth).whole || lateF (nM c.val kAuth).int tag tle now)) := by rw [← hM]; rfl
  have HMi : Hid (M = -1 ∨ ∃ i : Nat, M = (i : Int) ∧ i < c.val.length ∧ nM c.val kAuth = c.val.getD i (nd0 0)) := by
    rcases mem_in c.val kAuth with h | ⟨i, hi, h, _⟩
    · exact .inl (by rw [← hM]; exact h)
    · refine .inr ⟨i, by rw [← hM]; exact h, kidsF_lt i hi, ?_⟩
      unfold nM
      rw [h, if_neg (by omega), Int.toNat_natCast]
  rw [hM] at CM
  clear hM
  have y0 : W.cell? ⟨w.heap.size, 0, none⟩ = some (.slice va c.val.length vc) := (HBc.out W (Below.refl _ _)).cell 0 (Nat.le_of_ble_eq_true rfl)
  go_enter Tryz.func18, Tryz.ntmps18
  go_upto_region 1 with fail
  rw [HW.out]
  clear HW
  go_wp2_with fail
  refine CM.mono ?_
  clear CM y0
  rintro e w1 ⟨rfl, hB1⟩
  have HB1 : Hid (Below w.heap.size w w1) := HBW.out.trans (hB1.mono HBW.out.size)
  have y0 : w1.cell? ⟨w.heap.size, 0, none⟩ = some (.slice va c.val.length vc) := (HBc.out w1 hB1).cell 0 (Nat.le_of_ble_eq_true rfl)
  have y7 : w1.cell? ⟨w.heap.size + 1, 7, none⟩ = some (.int .i64 tag) := (HBt.out w1 hB1).cell 7 (Nat.le_of_ble_eq_true rfl)
  have y9 : w1.cell? ⟨w.heap.size + 1, 9, none⟩ = some (.int .i64 tle) := (HBt.out w1 hB1).cell 9 (Nat.le_of_ble_eq_true rfl)
  have hla := HLq.out w1 hB1
  clear hB1 HBc HBt HBW HLq
  rcases HMi.out with hm | ⟨i, hm, hil, hn⟩
  · subst hm
    have HR : Hid (oldD c.val tag tle now = true) := by show _ = _; rw [HX.out]; simp
    clear HX HMi hla
    go_wp2
    go_ret
    exact ⟨by rw [HR.out]; rfl, HB1.out⟩
  · subst hm
    obtain ⟨n, hnn⟩ : ∃ n, c.val.getD i (nd0 0) = n := ⟨_, rfl⟩
    rw [hn, hnn] at HX
    obtain ⟨gv, off, hav, hc2⟩ := hla.nr.at hil
    rw [hnn] at hc2
    rw [hav] at y0
    have z0 : w1.cell? ⟨gv, off + i * 6, none⟩ = some (.int .i64 n.kind) := hc2 0 _ (by omega) rfl
    have z3 : w1.cell? ⟨gv, off + i * 6 + 3, none⟩ = some (.bool n.whole) := hc2 3 _ (by omega) rfl
    have z4 : w1.cell? ⟨gv, off + i * 6 + 4, none⟩ = some (.int .i64 n.int) := hc2 4 _ (by omega) rfl
    have q0 : decide ((i : Int) < 0) = false := decide_eq_false (by omega)
    have q1 : (i : Int) < (c.val.length : Int) := by omega
    rw [q0, Bool.false_or] at HX
    clear hc2 hav hn hnn HMi hla
    obtain ⟨at_, hNI⟩ : ∃ x, n.int = x := ⟨_, rfl⟩
    obtain ⟨NK, hNK⟩ : ∃ x, n.kind = x := ⟨_, rfl⟩
    obtain ⟨NW, hNW⟩ : ∃ x, n.whole = x := ⟨_, rfl⟩
    rw [hNI] at HX z4
    rw [hNK] at HX z0
    rw [hNW] at HX z3
    clear hNI hNK hNW
    by_cases k4 : NK = 4
    · subst k4
      cases NW
      · have HR : Hid (oldD c.val tag tle now = true) := by show _ = _; rw [HX.out]; simp
        clear HX
        go_wp2
        go_ret
        exact ⟨by rw [HR.out]; rfl, HB1.out⟩
      · have e1 := bits_low at_
        have e3 := bits_low now
        have HF : Hid (oldD c.val tag tle now = (decide (wrap64 (at_ / 4294967296 + wrap64 (wrap64 (at_ % 4294967296 + tag) + tle) / 4294967296) < now / 4294967296) || ((now / 4294967296 == wrap64 (at_ / 4294967296 + wrap64 (wrap64 (at_ % 4294967296 + tag) + tle) / 4294967296)) && decide (wrap64 (wrap64 (at_ % 4294967296 + tag) + tle) % 4294967296 < now % 4294967296)))) := by show _ = _; rw [HX.out]; simp only [decide_true, Bool.not_true, Bool.false_or]; rfl
        clear HX
        go_upto_region 6 with fail
        clear y0 y7 y9 z0 z3 z4
        generalize wrap64 (wrap64 (at_ % 4294967296 + tag) + tle) = L0 at *
        have e2 := bits_low L0
        go_upto_region 7 with fail
        generalize wrap64 (at_ / 4294967296 + L0 / 4294967296) = H0 at *
        go_upto_region 8 with fail
        have r1 : decide (now / 4294967296 > H0) = decide (H0 < now / 4294967296) := rfl
        by_cases hb1 : H0 < now / 4294967296
        · have q1 : decide (H0 < now / 4294967296) = true := decide_eq_true hb1
          have q1' : decide (now / 4294967296 > H0) = true := decide_eq_true hb1
          have HR : Hid (oldD c.val tag tle now = true) := by show _ = _; rw [HF.out, q1]; rfl
          clear HF hb1 r1
          go_wp2
          go_ret
          exact ⟨by rw [HR.out]; rfl, HB1.out⟩
        · have q1 : decide (H0 < now / 4294967296) = false := decide_eq_false hb1
          have q1' : decide (now / 4294967296 > H0) = false := decide_eq_false hb1
          by_cases hb2 : now / 4294967296 = H0
          · have q2 : (now / 4294967296 == H0) = true := by rw [beq_iff_eq]; exact hb2
            by_cases hb3 : L0 % 4294967296 < now % 4294967296
            · have q3 : decide (L0 % 4294967296 < now % 4294967296) = true := decide_eq_true hb3
              have q3' : decide (now % 4294967296 > L0 % 4294967296) = true := decide_eq_true hb3
              have HR : Hid (oldD c.val tag tle now = true) := by show _ = _; rw [HF.out, q1, q2, q3]; rfl
              clear HF hb1 hb2 hb3 r1
              go_wp2
              go_ret
              exact ⟨by rw [HR.out]; rfl, HB1.out⟩
            · have q3 : decide (L0 % 4294967296 < now % 4294967296) = false := decide_eq_false hb3
              have q3' : decide (now % 4294967296 > L0 % 4294967296) = false := decide_eq_false hb3
              have HR : Hid (oldD c.val tag tle now = false) := by show _ = _; rw [HF.out, q1, q2, q3]; rfl
              clear HF hb1 hb2 hb3 r1
              go_wp2
              go_ret
              exact ⟨by rw [HR.out]; rfl, HB1.out⟩
          · have q2 : (now / 4294967296 == H0) = false := by rw [beq_eq_false_iff_ne]; exact hb2
            have HR : Hid (oldD c.val tag tle now = false) := by show _ = _; rw [HF.out, q1, q2]; rfl
            clear HF hb1 hb2 r1
            go_wp2
            go_ret
            exact ⟨by rw [HR.out]; rfl, HB1.out⟩
    · have k4' : (NK != 4) = true := by simpa using k4
      have HR : Hid (oldD c.val tag tle now = true) := by show _ = _; rw [HX.out, decide_eq_false k4]; rfl
      clear HX k4
      go_wp2
      go_ret
      exact ⟨by rw [HR.out]; rfl, HB1.out⟩


end Go.Proofs.YtdhfjhdlimmjhaaGreatDoor

namespace Go.Proofs.YtdhfjhdlimmjhaaGreatDoor
open Go.RowKit
set_option maxRecDepth 100000

def anyO (l : List (List UInt8)) (t : List UInt8) : Bool := decide (∃ x ∈ l, x ≠ t)
theorem anyO_snoc (l : List (List UInt8)) (x t : List UInt8) : anyO (l ++ [x]) t = (anyO l t || !decide (x = t)) := by
  unfold anyO
  by_cases h1 : ∃ y ∈ l, y ≠ t
  · rw [decide_eq_true h1, decide_eq_true (by obtain ⟨y, hy, hn⟩ := h1; exact ⟨y, List.mem_append_left _ hy, hn⟩)]; rfl
  · rw [decide_eq_false h1, Bool.false_or]
    by_cases h2 : x = t
    · rw [decide_eq_true h2, decide_eq_false (by
        rintro ⟨y, hy, hn⟩
        rcases List.mem_append.1 hy with hy | hy
        · exact h1 ⟨y, hy, hn⟩
        · simp only [List.mem_singleton] at hy; exact hn (hy.trans h2))]; rfl
    · rw [decide_eq_false h2, decide_eq_true ⟨x, by simp, h2⟩]; rfl

def azpD (l : List Nd) (aud : List (List UInt8)) (client : List UInt8) : Bool := (decide (0 ≤ memF l 0 kAzp) && !sayF (nM l kAzp) client) || (!decide (0 ≤ memF l 0 kAzp) && anyO aud client)

set_option maxRecDepth 100000 in
set_option maxHeartbeats 8000000 in
theorem razp_any (c : Cm) (va : Option Addr) (vc : Nat) (aa : Option Addr) (ac : Nat) (tcl : List UInt8) (tno : List UInt8) (thN : Bool) (tac : List UInt8) (thA : Bool) (tco : List UInt8) (thC : Bool) (tag : Int) (thG : Bool) (tle : Int) (w : World) (H : LA w c va vc aa ac) (hs : shapedF c.val = true) :
    Calls Tryz.prog 15 #[.agg #[.slice va c.val.length vc, .string ⟨c.iss.toArray⟩, .bool c.hIss, .string ⟨c.sub.toArray⟩, .bool c.hSub, .slice aa c.aud.length ac, .bool c.hAud, .string ⟨c.jti.toArray⟩, .bool c.hJti, .bool c.exp.has, .int .i64 c.exp.at_, .bool c.nbf.has, .int .i64 c.nbf.at_, .bool c.iat.has, .int .i64 c.iat.at_], .agg #[.string ⟨tcl.toArray⟩, .string ⟨tno.toArray⟩, .bool thN, .string ⟨tac.toArray⟩, .bool thA, .string ⟨tco.toArray⟩, .bool thC, .int .i64 tag, .bool thG, .int .i64 tle]] w fun e w' => e = .returned (.bool (azpD c.val c.aud tcl)) ∧ Below w.heap.size w w' := by
  obtain ⟨W, hW⟩ : ∃ x, ((w.alloc (.cells #[.slice va c.val.length vc, .string ⟨c.iss.toArray⟩, .bool c.hIss, .string ⟨c.sub.toArray⟩, .bool c.hSub, .slice aa c.aud.length ac, .bool c.hAud, .string ⟨c.jti.toArray⟩, .bool c.hJti, .bool c.exp.has, .int .i64 c.exp.at_, .bool c.nbf.has, .int .i64 c.nbf.at_, .bool c.iat.has, .int .i64 c.iat.at_] 27)).alloc (.cells #[.string ⟨tcl.toArray⟩, .string ⟨tno.toArray⟩, .bool thN, .string ⟨tac.toArray⟩, .bool thA, .string ⟨tco.toArray⟩, .bool thC, .int .i64 tag, .bool thG, .int .i64 tle] 30)) = x := ⟨_, rfl⟩
  have HBW : Hid (Below w.heap.size w W) := by
    rw [← hW]
    have h1 := alloc_below9 w (.cells #[.slice va c.val.length vc, .string ⟨c.iss.toArray⟩, .bool c.hIss, .string ⟨c.sub.toArray⟩, .bool c.hSub, .slice aa c.aud.length ac, .bool c.hAud, .string ⟨c.jti.toArray⟩, .bool c.hJti, .bool c.exp.has, .int .i64 c.exp.at_, .bool c.nbf.has, .int .i64 c.nbf.at_, .bool c.iat.has, .int .i64 c.iat.at_] 27)
    exact h1.trans ((alloc_below9 _ _).mono h1.size)
  have HBc : Hid (∀ wq, Below W.heap.size W wq → Bl 27 wq w.heap.size [.slice va c.val.length vc, .string ⟨c.iss.toArray⟩, .bool c.hIss, .string ⟨c.sub.toArray⟩, .bool c.hSub, .slice aa c.aud.length ac, .bool c.hAud, .string ⟨c.jti.toArray⟩, .bool c.hJti, .bool c.exp.has, .int .i64 c.exp.at_, .bool c.nbf.has, .int .i64 c.nbf.at_, .bool c.iat.has, .int .i64 c.iat.at_]) := fun wq hq => by
    have h1 : Bl 27 _ w.heap.size [.slice va c.val.length vc, .string ⟨c.iss.toArray⟩, .bool c.hIss, .string ⟨c.sub.toArray⟩, .bool c.hSub, .slice aa c.aud.length ac, .bool c.hAud, .string ⟨c.jti.toArray⟩, .bool c.hJti, .bool c.exp.has, .int .i64 c.exp.at_, .bool c.nbf.has, .int .i64 c.nbf.at_, .bool c.iat.has, .int .i64 c.iat.at_] := alloc_bl w [.slice va c.val.length vc, .string ⟨c.iss.toArray⟩, .bool c.hIss, .string ⟨c.sub.toArray⟩, .bool c.hSub, .slice aa c.aud.length ac, .bool c.hAud, .string ⟨c.jti.toArray⟩, .bool c.hJti, .bool c.exp.has, .int .i64 c.exp.at_, .bool c.nbf.has, .int .i64 c.nbf.at_, .bool c.iat.has, .int .i64 c.iat.at_] 27
    have h2 : Bl 27 W w.heap.size [.slice va c.val.length vc, .string ⟨c.iss.toArray⟩, .bool c.hIss, .string ⟨c.sub.toArray⟩, .bool c.hSub, .slice aa c.aud.length ac, .bool c.hAud, .string ⟨c.jti.toArray⟩, .bool c.hJti, .bool c.exp.has, .int .i64 c.exp.at_, .bool c.nbf.has, .int .i64 c.nbf.at_, .bool c.iat.has, .int .i64 c.iat.at_] := by rw [← hW]; exact h1.below (alloc_below9 _ _) h1.lt
    exact h2.below hq h2.lt
  have HBt : Hid (∀ wq, Below W.heap.size W wq → Bl 30 wq (w.heap.size + 1) [.string ⟨tcl.toArray⟩, .string ⟨tno.toArray⟩, .bool thN, .string ⟨tac.toArray⟩, .bool thA, .string ⟨tco.toArray⟩, .bool thC, .int .i64 tag, .bool thG, .int .i64 tle]) := fun wq hq => by
    have h1 := alloc_bl (w.alloc (.cells #[.slice va c.val.length vc, .string ⟨c.iss.toArray⟩, .bool c.hIss, .string ⟨c.sub.toArray⟩, .bool c.hSub, .slice aa c.aud.length ac, .bool c.hAud, .string ⟨c.jti.toArray⟩, .bool c.hJti, .bool c.exp.has, .int .i64 c.exp.at_, .bool c.nbf.has, .int .i64 c.nbf.at_, .bool c.iat.has, .int .i64 c.iat.at_] 27)) [.string ⟨tcl.toArray⟩, .string ⟨tno.toArray⟩, .bool thN, .string ⟨tac.toArray⟩, .bool thA, .string ⟨tco.toArray⟩, .bool thC, .int .i64 tag, .bool thG, .int .i64 tle] 30
    rw [alloc_size] at h1
    have h2 : Bl 30 W (w.heap.size + 1) [.string ⟨tcl.toArray⟩, .string ⟨tno.toArray⟩, .bool thN, .string ⟨tac.toArray⟩, .bool thA, .string ⟨tco.toArray⟩, .bool thC, .int .i64 tag, .bool thG, .int .i64 tle] := by rw [← hW]; exact h1
    exact h2.below hq h2.lt
  have HW : Hid (((w.alloc (.cells #[.slice va c.val.length vc, .string ⟨c.iss.toArray⟩, .bool c.hIss, .string ⟨c.sub.toArray⟩, .bool c.hSub, .slice aa c.aud.length ac, .bool c.hAud, .string ⟨c.jti.toArray⟩, .bool c.hJti, .bool c.exp.has, .int .i64 c.exp.at_, .bool c.nbf.has, .int .i64 c.nbf.at_, .bool c.iat.has, .int .i64 c.iat.at_] 27)).alloc (.cells #[.string ⟨tcl.toArray⟩, .string ⟨tno.toArray⟩, .bool thN, .string ⟨tac.toArray⟩, .bool thA, .string ⟨tco.toArray⟩, .bool thC, .int .i64 tag, .bool thG, .int .i64 tle] 30)) = W) := hW
  have HLq : Hid (∀ wq, Below W.heap.size W wq → LA wq c va vc aa ac) := fun wq hq => H.below (HBW.out.trans (hq.mono HBW.out.size))
  have HSp : Hid (shapedF c.val = true) := hs
  clear hW H hs
  have CM : Calls Tryz.prog 31 #[.slice va c.val.length vc, .int .i64 0, .string ⟨#[97, 122, 112]⟩] W fun e w' => e = .returned (.int .i64 (memF c.val 0 kAzp)) ∧ Below W.heap.size W w' := rmem_any c.val va vc kAzp W (HLq.out W (Below.refl _ _)).nr (HLq.out W (Below.refl _ _)).ln HSp.out
  obtain ⟨M, hM⟩ : ∃ x, memF c.val 0 kAzp = x := ⟨_, rfl⟩
  obtain ⟨th, hth⟩ : ∃ x, decide (0 ≤ M) = x := ⟨_, rfl⟩
  have HX : Hid (azpD c.val c.aud tcl = ((th && !sayF (nM c.val kAzp) tcl) || (!th && anyO c.aud tcl))) := by rw [← hth, ← hM]; rfl
  have hth2 : decide (M ≥ 0) = th := hth
  rw [hM] at CM
  clear hM
  have y0 : W.cell? ⟨w.heap.size, 0, none⟩ = some (.slice va c.val.length vc) := (HBc.out W (Below.refl _ _)).cell 0 (Nat.le_of_ble_eq_true rfl)
  go_enter Tryz.func15, Tryz.ntmps15
  go_upto_region 1 with fail
  rw [HW.out]
  clear HW
  go_wp2_with fail
  refine CM.mono ?_
  clear CM y0
  rintro e w1 ⟨rfl, hB1⟩
  have HB1 : Hid (Below W.heap.size W w1) := hB1
  have y0 : w1.cell? ⟨w.heap.size, 0, none⟩ = some (.slice va c.val.length vc) := (HBc.out w1 hB1).cell 0 (Nat.le_of_ble_eq_true rfl)
  have y1 : w1.cell? ⟨w.heap.size + 1, 0, none⟩ = some (.string ⟨tcl.toArray⟩) := (HBt.out w1 hB1).cell 0 (Nat.le_of_ble_eq_true rfl)
  clear hB1
  cases th
  · have HR : Hid (azpD c.val c.aud tcl = anyO c.aud tcl) := by show _ = _; rw [HX.out]; simp only [Bool.false_and, Bool.not_false, Bool.true_and, Bool.false_or]
    clear HX y0 y1
    go_wp2
    go_loopw [5] (fun s wx => ∃ i : Nat, s = .int .i64 i ∧ i ≤ c.aud.length ∧ Hid (anyO (c.aud.take i) tcl = false ∧ Below W.heap.size W wx)) (fun x _ => c.aud.length - (intOf x).toNat)
    case atStart => exact ⟨0, rfl, Nat.zero_le _, rfl, HB1.out⟩
    case round =>
      obtain ⟨i, rfl, hi, HI⟩ := hrel
      have y5 : wr.cell? ⟨w.heap.size, 5, none⟩ = some (.slice aa c.aud.length ac) := (HBc.out wr HI.out.2).cell 5 (Nat.le_of_ble_eq_true rfl)
      by_cases hlt : i < c.aud.length
      · have y0 : wr.cell? ⟨w.heap.size + 1, 0, none⟩ = some (.string ⟨tcl.toArray⟩) := (HBt.out wr HI.out.2).cell 0 (Nat.le_of_ble_eq_true rfl)
        obtain ⟨gx, off, hax, hcx⟩ := (HLq.out wr HI.out.2).tr.at hlt
        have hal := (HLq.out wr HI.out.2).la
        have q0 : decide ((i : Int) < (c.aud.length : Int)) = true := decide_eq_true (by omega)
        have q0' : (i : Int) < (c.aud.length : Int) := by omega
        rw [hax] at y5
        obtain ⟨x, hx⟩ : ∃ x, c.aud.getD i [] = x := ⟨_, rfl⟩
        rw [hx] at hcx
        have HT : Hid (c.aud.take (i + 1) = c.aud.take i ++ [x]) := by
          show _ = _
          rw [List.take_add_one, ← hx, List.getD_eq_getElem?_getD, List.getElem?_eq_getElem hlt]
          rfl
        have HM : Hid (x ∈ c.aud) := by
          rw [← hx, List.getD_eq_getElem?_getD, List.getElem?_eq_getElem hlt]
          exact List.getElem_mem hlt
        clear hx hax
        by_cases hxt : x = tcl
        · have qn : (x != tcl) = false := by simp [hxt]
          have qx : (x == tcl) = true := by simpa using hxt
          have HI2 : Hid (∀ n, Hid (anyO (c.aud.take (i + 1)) tcl = false ∧ Below W.heap.size W (wr.drewN n))) := fun n => ⟨by rw [HT.out, anyO_snoc, HI.out.1, decide_eq_true hxt]; rfl, below_drewN HI.out.2 n⟩
          clear HT HM HI hxt
          go_wp2
          go_quiet (fail)
          go_wp2
          go_roundw
          case rel => exact ⟨i + 1, by go_num, by omega, HI2.out _⟩
          case measure => simp [intOf]; omega
        · have qn : (x != tcl) = true := by simpa using hxt
          have qx : (x == tcl) = false := by simpa using hxt
          have HT2 : Hid (anyO c.aud tcl = true) := by
            show decide _ = true
            exact decide_eq_true ⟨x, HM.out, hxt⟩
          have HB2 : Hid (∀ n, Below w.heap.size w (wr.drewN n)) := fun n => HBW.out.trans ((below_drewN HI.out.2 n).mono HBW.out.size)
          clear HT HM HI hxt
          go_wp2
          go_quiet (fail)
          go_wp2
          go_ret
          exact ⟨by rw [HR.out, HT2.out]; rfl, HB2.out _⟩
      · have q0 : decide ((i : Int) < (c.aud.length : Int)) = false := decide_eq_false (by omega)
        have HT2 : Hid (anyO c.aud tcl = false) := by
          have h := HI.out.1
          rw [List.take_of_length_le (by omega)] at h
          exact h
        have HB2 : Hid (Below w.heap.size w wr) := HBW.out.trans (HI.out.2.mono HBW.out.size)
        clear HI
        go_wp2
        go_ret
        exact ⟨by rw [HR.out, HT2.out]; rfl, HB2.out⟩
  · have CS : Calls Tryz.prog 16 #[.slice va c.val.length vc, .string ⟨#[97, 122, 112]⟩, .string ⟨tcl.toArray⟩] w1 fun e w' => e = .returned (.bool (sayF (nM c.val kAzp) tcl)) ∧ Below w1.heap.size w1 w' := rsaid_any c.val va vc kAzp tcl w1 (HLq.out w1 HB1.out).nr (HLq.out w1 HB1.out).ln HSp.out
    obtain ⟨sd, hsd⟩ : ∃ x, sayF (nM c.val kAzp) tcl = x := ⟨_, rfl⟩
    rw [hsd] at CS HX
    have HR : Hid (azpD c.val c.aud tcl = !sd) := by show _ = _; rw [HX.out]; simp only [Bool.true_and, Bool.not_true, Bool.false_and, Bool.or_false]
    clear hsd HX
    go_wp2_with fail
    refine CS.mono ?_
    clear CS y0 y1
    rintro e wf ⟨rfl, hBf⟩
    have HB2 : Hid (Below w.heap.size w wf) := HBW.out.trans ((HB1.out.trans (hBf.mono HB1.out.size)).mono HBW.out.size)
    clear hBf
    go_wp2
    go_ret
    exact ⟨by rw [HR.out]; rfl, HB2.out⟩

end Go.Proofs.YtdhfjhdlimmjhaaGreatDoor

namespace Go.Proofs.YtdhfjhdlimmjhaaGreatDoor
open Go.RowKit
set_option maxRecDepth 100000

def hashD (l : List Nd) (alg : Int) (access : List UInt8) (hasA : Bool) (code : List UInt8) (hasC : Bool) : Bool := (hasA && !sayF (nM l kAt) (halfF alg access).1) || (hasC && !sayF (nM l kCh) (halfF alg code).1)

set_option maxRecDepth 100000 in
set_option maxHeartbeats 8000000 in
theorem rhashes_any (c : Cm) (alg : Int) (va : Option Addr) (vc : Nat) (aa : Option Addr) (ac : Nat) (tcl : List UInt8) (tno : List UInt8) (thN : Bool) (tac : List UInt8) (thA : Bool) (tco : List UInt8) (thC : Bool) (tag : Int) (thG : Bool) (tle : Int) (w : World) (H : LA w c va vc aa ac) (hs : shapedF c.val = true) (hF : ∀ (t : List UInt8) (wq : World), t.length ≤ 100000000 → Below w.heap.size w wq → Calls Tryz.prog 32 #[.int .i64 alg, .string ⟨t.toArray⟩] wq fun e w' => e = .returned (.tuple #[.string ⟨(halfF alg t).1.toArray⟩, .int .i64 ((halfF alg t).2 : Nat)]) ∧ Below wq.heap.size wq w') (h1 : tac.length ≤ 100000000) (h2 : tco.length ≤ 100000000) :
    Calls Tryz.prog 17 #[.agg #[.slice va c.val.length vc, .string ⟨c.iss.toArray⟩, .bool c.hIss, .string ⟨c.sub.toArray⟩, .bool c.hSub, .slice aa c.aud.length ac, .bool c.hAud, .string ⟨c.jti.toArray⟩, .bool c.hJti, .bool c.exp.has, .int .i64 c.exp.at_, .bool c.nbf.has, .int .i64 c.nbf.at_, .bool c.iat.has, .int .i64 c.iat.at_], .int .i64 alg, .agg #[.string ⟨tcl.toArray⟩, .string ⟨tno.toArray⟩, .bool thN, .string ⟨tac.toArray⟩, .bool thA, .string ⟨tco.toArray⟩, .bool thC, .int .i64 tag, .bool thG, .int .i64 tle]] w fun e w' => e = .returned (.bool (hashD c.val alg tac thA tco thC)) ∧ Below w.heap.size w w' := by
  obtain ⟨W, hW⟩ : ∃ x, ((w.alloc (.cells #[.slice va c.val.length vc, .string ⟨c.iss.toArray⟩, .bool c.hIss, .string ⟨c.sub.toArray⟩, .bool c.hSub, .slice aa c.aud.length ac, .bool c.hAud, .string ⟨c.jti.toArray⟩, .bool c.hJti, .bool c.exp.has, .int .i64 c.exp.at_, .bool c.nbf.has, .int .i64 c.nbf.at_, .bool c.iat.has, .int .i64 c.iat.at_] 27)).alloc (.cells #[.string ⟨tcl.toArray⟩, .string ⟨tno.toArray⟩, .bool thN, .string ⟨tac.toArray⟩, .bool thA, .string ⟨tco.toArray⟩, .bool thC, .int .i64 tag, .bool thG, .int .i64 tle] 30)) = x := ⟨_, rfl⟩
  have HBW : Hid (Below w.heap.size w W) := by
    rw [← hW]
    have h1 := alloc_below9 w (.cells #[.slice va c.val.length vc, .string ⟨c.iss.toArray⟩, .bool c.hIss, .string ⟨c.sub.toArray⟩, .bool c.hSub, .slice aa c.aud.length ac, .bool c.hAud, .string ⟨c.jti.toArray⟩, .bool c.hJti, .bool c.exp.has, .int .i64 c.exp.at_, .bool c.nbf.has, .int .i64 c.nbf.at_, .bool c.iat.has, .int .i64 c.iat.at_] 27)
    exact h1.trans ((alloc_below9 _ _).mono h1.size)
  have HBc : Hid (∀ wq, Below W.heap.size W wq → Bl 27 wq w.heap.size [.slice va c.val.length vc, .string ⟨c.iss.toArray⟩, .bool c.hIss, .string ⟨c.sub.toArray⟩, .bool c.hSub, .slice aa c.aud.length ac, .bool c.hAud, .string ⟨c.jti.toArray⟩, .bool c.hJti, .bool c.exp.has, .int .i64 c.exp.at_, .bool c.nbf.has, .int .i64 c.nbf.at_, .bool c.iat.has, .int .i64 c.iat.at_]) := fun wq hq => by
    have h1 : Bl 27 _ w.heap.size [.slice va c.val.length vc, .string ⟨c.iss.toArray⟩, .bool c.hIss, .string ⟨c.sub.toArray⟩, .bool c.hSub, .slice aa c.aud.length ac, .bool c.hAud, .string ⟨c.jti.toArray⟩, .bool c.hJti, .bool c.exp.has, .int .i64 c.exp.at_, .bool c.nbf.has, .int .i64 c.nbf.at_, .bool c.iat.has, .int .i64 c.iat.at_] := alloc_bl w [.slice va c.val.length vc, .string ⟨c.iss.toArray⟩, .bool c.hIss, .string ⟨c.sub.toArray⟩, .bool c.hSub, .slice aa c.aud.length ac, .bool c.hAud, .string ⟨c.jti.toArray⟩, .bool c.hJti, .bool c.exp.has, .int .i64 c.exp.at_, .bool c.nbf.has, .int .i64 c.nbf.at_, .bool c.iat.has, .int .i64 c.iat.at_] 27
    have h2 : Bl 27 W w.heap.size [.slice va c.val.length vc, .string ⟨c.iss.toArray⟩, .bool c.hIss, .string ⟨c.sub.toArray⟩, .bool c.hSub, .slice aa c.aud.length ac, .bool c.hAud, .string ⟨c.jti.toArray⟩, .bool c.hJti, .bool c.exp.has, .int .i64 c.exp.at_, .bool c.nbf.has, .int .i64 c.nbf.at_, .bool c.iat.has, .int .i64 c.iat.at_] := by rw [← hW]; exact h1.below (alloc_below9 _ _) h1.lt
    exact h2.below hq h2.lt
  have HBt : Hid (∀ wq, Below W.heap.size W wq → Bl 30 wq (w.heap.size + 1) [.string ⟨tcl.toArray⟩, .string ⟨tno.toArray⟩, .bool thN, .string ⟨tac.toArray⟩, .bool thA, .string ⟨tco.toArray⟩, .bool thC, .int .i64 tag, .bool thG, .int .i64 tle]) := fun wq hq => by
    have h1 := alloc_bl (w.alloc (.cells #[.slice va c.val.length vc, .string ⟨c.iss.toArray⟩, .bool c.hIss, .string ⟨c.sub.toArray⟩, .bool c.hSub, .slice aa c.aud.length ac, .bool c.hAud, .string ⟨c.jti.toArray⟩, .bool c.hJti, .bool c.exp.has, .int .i64 c.exp.at_, .bool c.nbf.has, .int .i64 c.nbf.at_, .bool c.iat.has, .int .i64 c.iat.at_] 27)) [.string ⟨tcl.toArray⟩, .string ⟨tno.toArray⟩, .bool thN, .string ⟨tac.toArray⟩, .bool thA, .string ⟨tco.toArray⟩, .bool thC, .int .i64 tag, .bool thG, .int .i64 tle] 30
    rw [alloc_size] at h1
    have h2 : Bl 30 W (w.heap.size + 1) [.string ⟨tcl.toArray⟩, .string ⟨tno.toArray⟩, .bool thN, .string ⟨tac.toArray⟩, .bool thA, .string ⟨tco.toArray⟩, .bool thC, .int .i64 tag, .bool thG, .int .i64 tle] := by rw [← hW]; exact h1
    exact h2.below hq h2.lt
  have HW : Hid (((w.alloc (.cells #[.slice va c.val.length vc, .string ⟨c.iss.toArray⟩, .bool c.hIss, .string ⟨c.sub.toArray⟩, .bool c.hSub, .slice aa c.aud.length ac, .bool c.hAud, .string ⟨c.jti.toArray⟩, .bool c.hJti, .bool c.exp.has, .int .i64 c.exp.at_, .bool c.nbf.has, .int .i64 c.nbf.at_, .bool c.iat.has, .int .i64 c.iat.at_] 27)).alloc (.cells #[.string ⟨tcl.toArray⟩, .string ⟨tno.toArray⟩, .bool thN, .string ⟨tac.toArray⟩, .bool thA, .string ⟨tco.toArray⟩, .bool thC, .int .i64 tag, .bool thG, .int .i64 tle] 30)) = W) := hW
  have HLq : Hid (∀ wq, Below W.heap.size W wq → LA wq c va vc aa ac) := fun wq hq => H.below (HBW.out.trans (hq.mono HBW.out.size))
  have HSp : Hid (shapedF c.val = true) := hs
  clear hW H hs
  obtain ⟨A1, hA1⟩ : ∃ x, (halfF alg tac).1 = x := ⟨_, rfl⟩
  obtain ⟨A2, hA2⟩ : ∃ x, (halfF alg tco).1 = x := ⟨_, rfl⟩
  obtain ⟨N1, hN1⟩ : ∃ x, ((halfF alg tac).2 : Int) = x := ⟨_, rfl⟩
  obtain ⟨N2, hN2⟩ : ∃ x, ((halfF alg tco).2 : Int) = x := ⟨_, rfl⟩
  have HX : Hid (((thA && !sayF (nM c.val kAt) A1) || (thC && !sayF (nM c.val kCh) A2)) = hashD c.val alg tac thA tco thC) := by rw [← hA1, ← hA2]; rfl
  have HH1 : Hid (∀ wq, Below W.heap.size W wq → Calls Tryz.prog 32 #[.int .i64 alg, .string ⟨tac.toArray⟩] wq fun e w' => e = .returned (.tuple #[.string ⟨A1.toArray⟩, .int .i64 N1]) ∧ Below wq.heap.size wq w') := fun wq hq => by rw [← hA1, ← hN1]; exact hF tac wq h1 (HBW.out.trans (hq.mono HBW.out.size))
  have HH2 : Hid (∀ wq, Below W.heap.size W wq → Calls Tryz.prog 32 #[.int .i64 alg, .string ⟨tco.toArray⟩] wq fun e w' => e = .returned (.tuple #[.string ⟨A2.toArray⟩, .int .i64 N2]) ∧ Below wq.heap.size wq w') := fun wq hq => by rw [← hA2, ← hN2]; exact hF tco wq h2 (HBW.out.trans (hq.mono HBW.out.size))
  clear hA1 hA2 hN1 hN2 hF h1 h2
  have C1 := HH1.out W (Below.refl _ _)
  have y3 : W.cell? ⟨w.heap.size + 1, 3, none⟩ = some (.string ⟨tac.toArray⟩) := (HBt.out W (Below.refl _ _)).cell 3 (Nat.le_of_ble_eq_true rfl)
  clear HH1
  go_enter Tryz.func17, Tryz.ntmps17
  go_upto_region 1 with fail
  rw [HW.out]
  clear HW
  go_wp2_with fail
  refine C1.mono ?_
  clear C1 y3
  rintro e wd ⟨rfl, hBd⟩
  have HBd : Hid (Below W.heap.size W wd) := hBd
  have C2 := HH2.out wd hBd
  have y5 : wd.cell? ⟨w.heap.size + 1, 5, none⟩ = some (.string ⟨tco.toArray⟩) := (HBt.out wd hBd).cell 5 (Nat.le_of_ble_eq_true rfl)
  clear HH2 hBd
  go_wp2_with fail
  refine C2.mono ?_
  clear C2 y5
  rintro e we ⟨rfl, hBe⟩
  have HBe : Hid (Below W.heap.size W we) := HBd.out.trans (hBe.mono HBd.out.size)
  have HZe : Hid (Below w.heap.size w we) := HBW.out.trans (HBe.out.mono HBW.out.size)
  clear hBe HBd
  have e := HX.out
  have CS : Calls Tryz.prog 16 #[.slice va c.val.length vc, .string ⟨#[97, 116, 95, 104, 97, 115, 104]⟩, .string ⟨A1.toArray⟩] we fun e w' => e = .returned (.bool (sayF (nM c.val kAt) A1)) ∧ Below we.heap.size we w' := rsaid_any c.val va vc kAt A1 we (HLq.out we HBe.out).nr (HLq.out we HBe.out).ln HSp.out
  have HC2 : Hid (∀ wq, Below W.heap.size W wq → Calls Tryz.prog 16 #[.slice va c.val.length vc, .string ⟨#[99, 95, 104, 97, 115, 104]⟩, .string ⟨A2.toArray⟩] wq fun e w' => e = .returned (.bool (sayF (nM c.val kCh) A2)) ∧ Below wq.heap.size wq w') := fun wq hq => rsaid_any c.val va vc kCh A2 wq (HLq.out wq hq).nr (HLq.out wq hq).ln HSp.out
  obtain ⟨s1, hs1⟩ : ∃ x, sayF (nM c.val kAt) A1 = x := ⟨_, rfl⟩
  obtain ⟨s2, hs2⟩ : ∃ x, sayF (nM c.val kCh) A2 = x := ⟨_, rfl⟩
  rw [hs1] at CS e
  rw [hs2] at HC2 e
  obtain ⟨R, hR⟩ : ∃ x, hashD c.val alg tac thA tco thC = x := ⟨_, rfl⟩
  rw [hR] at e
  have HRr : Hid (hashD c.val alg tac thA tco thC = R) := hR
  clear hs1 hs2 HX hR
  have y4 : we.cell? ⟨w.heap.size + 1, 4, none⟩ = some (.bool thA) := (HBt.out we HBe.out).cell 4 (Nat.le_of_ble_eq_true rfl)
  have y0 : we.cell? ⟨w.heap.size, 0, none⟩ = some (.slice va c.val.length vc) := (HBc.out we HBe.out).cell 0 (Nat.le_of_ble_eq_true rfl)
  have y6 : we.cell? ⟨w.heap.size + 1, 6, none⟩ = some (.bool thC) := (HBt.out we HBe.out).cell 6 (Nat.le_of_ble_eq_true rfl)
  have HAq : Hid (∀ wq, Below W.heap.size W wq → wq.cell? ⟨w.heap.size, 0, none⟩ = some (.slice va c.val.length vc) ∧ wq.cell? ⟨w.heap.size + 1, 6, none⟩ = some (.bool thC)) := fun wq hq => ⟨(HBc.out wq hq).cell 0 (Nat.le_of_ble_eq_true rfl), (HBt.out wq hq).cell 6 (Nat.le_of_ble_eq_true rfl)⟩
  clear HBc HBt HLq
  cases thA
  · cases thC
    · have e2 : false = R := by simpa using e
      subst e2
      clear e
      go_wp2
      go_ret
      exact ⟨by rw [HRr.out]; rfl, HZe.out⟩
    · have C2 := HC2.out we HBe.out
      go_wp2_with fail
      refine C2.mono ?_
      clear C2 y0 y4 y6 CS
      rintro e' wf ⟨rfl, hBf⟩
      have HZf : Hid (Below w.heap.size w wf) := HZe.out.trans (hBf.mono HZe.out.size)
      clear hBf
      cases s2
      · have e2 : true = R := by simpa using e
        subst e2
        clear e
        go_wp2
        go_ret
        exact ⟨by rw [HRr.out]; rfl, HZf.out⟩
      · have e2 : false = R := by simpa using e
        subst e2
        clear e
        go_wp2
        go_ret
        exact ⟨by rw [HRr.out]; rfl, HZf.out⟩
  · go_wp2_with fail
    refine CS.mono ?_
    clear CS y0 y4 y6
    rintro e' wf ⟨rfl, hBf⟩
    have HZf : Hid (Below w.heap.size w wf) := HZe.out.trans (hBf.mono HZe.out.size)
    have HBf : Hid (Below W.heap.size W wf) := HBe.out.trans (hBf.mono HBe.out.size)
    obtain ⟨y0, y6⟩ := HAq.out wf HBf.out
    clear hBf
    cases s1
    · have e2 : true = R := by simpa using e
      subst e2
      clear e
      go_wp2
      go_ret
      exact ⟨by rw [HRr.out]; rfl, HZf.out⟩
    · cases thC
      · have e2 : false = R := by simpa using e
        subst e2
        clear e
        go_wp2
        go_ret
        exact ⟨by rw [HRr.out]; rfl, HZf.out⟩
      · have C2 := HC2.out wf HBf.out
        go_wp2_with fail
        refine C2.mono ?_
        clear C2 y0 y6
        rintro e' wh ⟨rfl, hBh⟩
        have HZh : Hid (Below w.heap.size w wh) := HZf.out.trans (hBh.mono HZf.out.size)
        clear hBh
        cases s2
        · have e2 : true = R := by simpa using e
          subst e2
          clear e
          go_wp2
          go_ret
          exact ⟨by rw [HRr.out]; rfl, HZh.out⟩
        · have e2 : false = R := by simpa using e
          subst e2
          clear e
          go_wp2
          go_ret
          exact ⟨by rw [HRr.out]; rfl, HZh.out⟩

end Go.Proofs.YtdhfjhdlimmjhaaGreatDoor
