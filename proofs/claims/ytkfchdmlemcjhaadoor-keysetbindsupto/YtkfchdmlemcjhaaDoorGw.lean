import Derived.Test.YtkfchdmlemcjhaaDoorWc
namespace Go.Proofs.YtkfchdmlemcjhaaDoor
open Go.RowKit Go.Shelf

theorem at_of_w {v : List Nd} (h : Sq 0 [[]] v) (hl : v.length ≤ 100000000) {i : Nat} (hi : i < v.length) : At v i := by
  obtain ⟨d, n, ks, r, pre, post, hd, hv, hp, hw, hr, hn, hk⟩ := h.at i hi
  have hlen : v.length = pre.length + (1 + r.length + post.length) := by rw [hv]; simp; omega
  have hg : v.getD i (nd0 0) = n := by rw [hv, ← hp]; simp
  have hb : bhN v i = i + (1 + r.length) := by
    rw [← hp, Sq.behind (Sq.one hw hr hn hk) (pre := pre) (post := post) (v := v) hv (by simp only [List.length_cons]; omega)]
    simp only [List.length_cons]
    omega
  have hpl : (pre ++ [n]).length = i + 1 := by simp [hp]
  have hkid := hr.kids (pre ++ [n]) post v (v.length + 1) (by rw [hv]; simp) (by omega) (by omega)
  rw [hpl, ← hn] at hkid
  have hkF : kidsF v (i : Int) = kidsL v (v.length + 1) (i + 1) n.kids := by
    unfold kidsF
    rw [if_pos ⟨by omega, by omega⟩, Int.toNat_natCast, hg]
  refine ⟨?_, ?_, ?_, ?_, ?_⟩
  · rw [hkF, hb, show i + (1 + r.length) = i + 1 + r.length by omega]
    exact hkid.1
  · rw [hkF, hg, hn]
    have := congrArg List.length hkid.2
    rw [List.length_map, hn] at this
    omega
  · intro h7 j hj
    rw [hg] at h7
    unfold memF
    rw [if_pos ⟨by omega, by omega, by rw [Int.toNat_natCast, hg]; exact h7⟩]
    refine mem_first v _ ?_ j hj
    rw [hkF, hkid.2]
    exact (hk.2 h7).2
  · intro h7
    unfold memF
    rw [if_neg]
    intro hh
    rw [Int.toNat_natCast] at hh
    exact h7 hh.2.2
  · rw [hg, hb, show i + (1 + r.length) - (i + 1) = r.length by omega]
    have e1 : (v.drop (i + 1)).take r.length = r := by
      rw [hv, show pre ++ ((n :: r) ++ post) = (pre ++ [n]) ++ (r ++ post) by simp, ← hpl, List.drop_left, List.take_left]
    rw [e1]
    exact Sq.shaped (Sq.one (n := { n with key := [] }) (wm_key [] (wm_low hw hd)) (hr.low (by omega)) hn hk)

theorem all_of_w {v : List Nd} (h : Sq 0 [[]] v) (hl : v.length ≤ 100000000) : 0 < v.length ∧ bhN v 0 = v.length := by
  have h1 := h.len
  have h2 := Sq.behind h (pre := []) (post := []) (v := v) (by simp) (by omega)
  simp at h1 h2
  exact ⟨h1, h2⟩

set_option maxRecDepth 100000 in
set_option maxHeartbeats 4000000 in
/-- The document's Behind, at a place of a well shaped value. -/
theorem rbehind_step_w (n : Nat) (ih : ∀ (l : List Nd) (ao : Option Addr) (cap i : Nat) (w : World), NR w (.slice ao l.length cap) l ao cap → l.length ≤ 100000000 → (∀ i, i < l.length → At l i) → i < l.length → l.length - i ≤ n → Calls Tryd.prog 35 #[.slice ao l.length cap, .int .i64 (i : Int)] w fun e w' => e = .returned (.int .i64 (bhN l i : Int)) ∧ w' = w)
    (l : List Nd) (ao : Option Addr) (cap i : Nat) (w : World) (h : NR w (.slice ao l.length cap) l ao cap) (hl : l.length ≤ 100000000) (hA : ∀ i, i < l.length → At l i) (hi : i < l.length) (hn : l.length - i ≤ n + 1) :
    Calls Tryd.prog 35 #[.slice ao l.length cap, .int .i64 (i : Int)] w fun e w' => e = .returned (.int .i64 (bhN l i : Int)) ∧ w' = w := by
  obtain ⟨_, hc, _⟩ := id h
  have hat := hA i hi
  obtain ⟨K, hK⟩ : ∃ K, (l.getD i (nd0 0)).kids = K := ⟨_, rfl⟩
  obtain ⟨L, hL⟩ : ∃ L, kidsF l (i : Int) = L := ⟨_, rfl⟩
  have hlt : ∀ k ∈ L, k < l.length := by rw [← hL]; exact fun k hk => kidsF_lt k hk
  have hch := hat.ch
  have hln := hat.ln
  rw [hL] at hch hln
  rw [hK] at hln
  subst hln
  have HC : Hid (Ch l (i + 1) L (bhN l i)) := hch
  have HLt : Hid (∀ k ∈ L, k < l.length) := hlt
  have HI : Hid (∀ (k : Nat) (wq : World), i < k → k < l.length → NR wq (.slice ao l.length cap) l ao cap → Calls Tryd.prog 35 #[.slice ao l.length cap, .int .i64 (k : Int)] wq fun e w' => e = .returned (.int .i64 (bhN l k : Int)) ∧ w' = wq) := fun k wq h1 h2 h3 => ih l ao cap k wq h3 hl hA h2 (by omega)
  have HN : Hid (NR w (.slice ao l.length cap) l ao cap) := h
  obtain ⟨g, off, rfl, _⟩ := h.at hi
  clear ih hA hat hch hlt hL h hn
  have q0 : decide ((i : Int) < 0) = false := decide_eq_false (by omega)
  have q1 : decide ((i : Int) ≥ (l.length : Int)) = false := decide_eq_false (by omega)
  have q2 : decide (l.length ≤ i) = false := decide_eq_false (by omega)
  go_enter Tryd.func35, Tryd.ntmps35
  go_wp2
  go_loopw [5, 6] (fun s5 s6 wx => ∃ (j k : Nat), s5 = .int .i64 k ∧ s6 = .int .i64 j ∧ j ≤ L.length ∧ i < k ∧ j < k ∧ k ≤ l.length ∧ Ch l k (L.drop j) (bhN l i) ∧ wx = w) (fun _ s _ => L.length - (intOf s).toNat)
  case atStart => exact ⟨0, i + 1, by go_num, rfl, Nat.zero_le _, by omega, by omega, by omega, HC.out, rfl⟩
  case round =>
    obtain ⟨j, k, rfl, rfl, hj, hik, hjk, hkl, hch, rfl⟩ := hrel
    obtain ⟨_, _, e', hcell⟩ := HN.out.at hi
    cases e'
    have ck := hcell 5 (.int .i64 (L.length : Int)) (by omega) (by rw [← hK]; rfl)
    clear hcell
    have qk : decide ((k : Int) ≥ 0) = true := decide_eq_true (by omega)
    by_cases hlt : j < L.length
    · have qj : decide ((j : Int) < (L.length : Int)) = true := decide_eq_true (by omega)
      obtain ⟨hg, hch2⟩ := hch.step hlt
      have hk2 : k < l.length := by
        rw [← hg]
        refine HLt.out _ ?_
        rw [List.getD_eq_getElem?_getD, List.getElem?_eq_getElem hlt]
        exact List.getElem_mem hlt
      have hb1 := bhN_gt hk2
      have hb2 := bhN_le (v := l) (i := k) (by omega)
      have HC2 : Hid (Ch l (bhN l k) (L.drop (j + 1)) (bhN l i)) := hch2
      have HCB : Hid (∀ wq, NR wq (.slice (some ⟨g, off, none⟩) l.length cap) l (some ⟨g, off, none⟩) cap → Calls Tryd.prog 35 #[.slice (some ⟨g, off, none⟩) l.length cap, .int .i64 (k : Int)] wq fun e w' => e = .returned (.int .i64 (bhN l k : Int)) ∧ w' = wq) := fun wq hq => HI.out k wq hik hk2 hq
      clear hch hch2 hg
      generalize bhN l k = kb at *
      have C1 := HCB.out wr HN.out
      clear HCB HI
      go_wp2_with fail
      refine C1.mono ?_
      clear C1
      rintro e w1 ⟨rfl, rfl⟩
      go_wp2
      go_roundw
      case rel => exact ⟨j + 1, kb, rfl, by go_num, by omega, by omega, by omega, hb2, HC2.out, trivial⟩
      case measure => simp [intOf]; omega
    · have qj : decide ((j : Int) < (L.length : Int)) = false := decide_eq_false (by omega)
      have hst := hch.stop (by omega)
      subst hst
      clear hch
      go_wp2
      go_ret
      exact ⟨rfl, rfl⟩

theorem rbehind_any_w : ∀ (n : Nat) (l : List Nd) (ao : Option Addr) (cap i : Nat) (w : World), NR w (.slice ao l.length cap) l ao cap → l.length ≤ 100000000 → (∀ i, i < l.length → At l i) → i < l.length → l.length - i ≤ n → Calls Tryd.prog 35 #[.slice ao l.length cap, .int .i64 (i : Int)] w fun e w' => e = .returned (.int .i64 (bhN l i : Int)) ∧ w' = w
  | 0, _, _, _, _, _, _, _, _, h1, h2 => by omega
  | n + 1, l, ao, cap, i, w, h, hl, hA, h1, h2 => rbehind_step_w n (rbehind_any_w n) l ao cap i w h hl hA h1 h2

set_option maxRecDepth 100000 in
set_option maxHeartbeats 4000000 in
/-- The document's Kids, at a place of a well shaped value. -/
theorem rkids_any_w (l : List Nd) (ao : Option Addr) (cap i : Nat) (w : World) (h : NR w (.slice ao l.length cap) l ao cap) (hl : l.length ≤ 100000000) (hA : ∀ i, i < l.length → At l i) (hi : i < l.length) :
    Calls Tryd.prog 25 #[.slice ao l.length cap, .int .i64 (i : Int)] w fun e w' => ∃ r, e = .returned r ∧ OI w.heap.size w w' r (kidsF l (i : Int)) := by
  obtain ⟨_, hc, _⟩ := id h
  have hat := hA i hi
  obtain ⟨K, hK⟩ : ∃ K, (l.getD i (nd0 0)).kids = K := ⟨_, rfl⟩
  obtain ⟨L, hL⟩ : ∃ L, kidsF l (i : Int) = L := ⟨_, rfl⟩
  have hlt : ∀ k ∈ L, k < l.length := by rw [← hL]; exact fun k hk => kidsF_lt k hk
  have hch := hat.ch
  have hln := hat.ln
  rw [hL] at hch hln
  rw [hK] at hln
  rw [hL]
  subst hln
  have HC : Hid (Ch l (i + 1) L (bhN l i)) := hch
  have HLt : Hid (∀ k ∈ L, k < l.length) := hlt
  have HI : Hid (∀ (k : Nat) (wq : World), k < l.length → NR wq (.slice ao l.length cap) l ao cap → Calls Tryd.prog 35 #[.slice ao l.length cap, .int .i64 (k : Int)] wq fun e w' => e = .returned (.int .i64 (bhN l k : Int)) ∧ w' = wq) := fun k wq h2 h3 => rbehind_any_w l.length l ao cap k wq h3 hl hA h2 (by omega)
  have HN : Hid (∀ wq, Below w.heap.size w wq → NR wq (.slice ao l.length cap) l ao cap) := fun wq hq => h.below hq (Nat.le_refl _)
  obtain ⟨g, off, rfl, _⟩ := h.at hi
  clear hA hat hch hlt hL h
  have q0 : decide ((i : Int) < 0) = false := decide_eq_false (by omega)
  have q1 : decide ((i : Int) ≥ (l.length : Int)) = false := decide_eq_false (by omega)
  have q2 : decide (l.length ≤ i) = false := decide_eq_false (by omega)
  go_enter Tryd.func25, Tryd.ntmps25
  go_wp2
  go_loopw [5, 6, 7] (fun s5 s6 s7 wx => ∃ (j k : Nat), s6 = .int .i64 k ∧ s7 = .int .i64 j ∧ j ≤ L.length ∧ i < k ∧ j < k ∧ k ≤ l.length ∧ OI w.heap.size w wx s5 (L.take j) ∧ Ch l k (L.drop j) (bhN l i)) (fun _ _ s _ => L.length - (intOf s).toNat)
  case atStart => exact ⟨0, i + 1, by go_num, rfl, Nat.zero_le _, by omega, by omega, by omega, ⟨World.ownsRow_nil _ _ _ _, Below.refl _ _⟩, HC.out⟩
  case round =>
    obtain ⟨j, k, rfl, rfl, hj, hik, hjk, hkl, hoi, hch⟩ := hrel
    obtain ⟨_, _, e', hcell⟩ := (HN.out wr hoi.bel).at hi
    cases e'
    have ck := hcell 5 (.int .i64 (L.length : Int)) (by omega) (by rw [← hK]; rfl)
    clear hcell
    have HO : Hid (OI w.heap.size w wr u5 (L.take j)) := hoi
    have qk : decide ((k : Int) ≥ 0) = true := decide_eq_true (by omega)
    by_cases hlt : j < L.length
    · have qj : decide ((j : Int) < (L.length : Int)) = true := decide_eq_true (by omega)
      obtain ⟨hg, hch2⟩ := hch.step hlt
      have hk2 : k < l.length := by
        rw [← hg]
        refine HLt.out _ ?_
        rw [List.getD_eq_getElem?_getD, List.getElem?_eq_getElem hlt]
        exact List.getElem_mem hlt
      have qk2 : decide ((k : Int) < (l.length : Int)) = true := decide_eq_true (by omega)
      have hb1 := bhN_gt hk2
      have hb2 := bhN_le (v := l) (i := k) (by omega)
      have HC2 : Hid (Ch l (bhN l k) (L.drop (j + 1)) (bhN l i)) := hch2
      have HT : Hid (L.take j ++ [k] = L.take (j + 1)) := by
        show _ = _
        rw [← hg, List.take_add_one, List.getElem?_eq_getElem hlt, List.getD_eq_getElem?_getD, List.getElem?_eq_getElem hlt]
        rfl
      have HCB : Hid (∀ wq, NR wq (.slice (some ⟨g, off, none⟩) l.length cap) l (some ⟨g, off, none⟩) cap → Calls Tryd.prog 35 #[.slice (some ⟨g, off, none⟩) l.length cap, .int .i64 (k : Int)] wq fun e w' => e = .returned (.int .i64 (bhN l k : Int)) ∧ w' = wq) := fun wq hq => HI.out k wq hk2 hq
      clear hch hch2 hg hoi
      generalize bhN l k = kb at *
      go_wp2_with (at_builtin; refine append_int (wr := wr) rfl (.tmp 38) (.tmp 40) rfl w.heap.size w _ (L.take j) k rfl HO.out rfl (by simp; omega) (Nat.le_refl _) ?_; intro v5 w5 h5)
      rw [HT.out] at h5
      have HO2 : Hid (OI w.heap.size w w5 v5 (L.take (j + 1))) := h5
      have C2 := HCB.out w5 (HN.out w5 h5.bel)
      clear h5 HCB HI HO
      go_wp2_with fail
      refine C2.mono ?_
      clear C2
      rintro e w6 ⟨rfl, rfl⟩
      go_wp2
      go_roundw
      case rel => exact ⟨j + 1, kb, rfl, by go_num, by omega, by omega, by omega, hb2, HO2.out, HC2.out⟩
      case measure => simp [intOf]; omega
    · have qj : decide ((j : Int) < (L.length : Int)) = false := decide_eq_false (by omega)
      have hst : j = L.length := by omega
      have HE : Hid (L.take j = L) := by show _ = _; rw [hst, List.take_length]
      clear hch hoi
      go_wp2
      go_ret
      rw [HE.out] at HO
      exact ⟨_, rfl, HO.out⟩

set_option maxRecDepth 100000 in
set_option maxHeartbeats 4000000 in
/-- The document's Member, at a place of a well shaped value. -/
theorem rmember_any_w (l : List Nd) (ao : Option Addr) (cap i : Nat) (key : List UInt8) (w : World) (h : NR w (.slice ao l.length cap) l ao cap) (hl : l.length ≤ 100000000) (hA : ∀ i, i < l.length → At l i) (hi : i < l.length) :
    Calls Tryd.prog 17 #[.slice ao l.length cap, .int .i64 (i : Int), .string ⟨key.toArray⟩] w fun e w' => e = .returned (.int .i64 (memF l (i : Int) key)) ∧ Below w.heap.size w w' := by
  obtain ⟨_, hc, _⟩ := id h
  obtain ⟨K, hK⟩ : ∃ K, (l.getD i (nd0 0)).kind = K := ⟨_, rfl⟩
  have CK := rkids_any_w l ao cap i w h hl hA hi
  have HN : Hid (NR w (.slice ao l.length cap) l ao cap) := h
  obtain ⟨g, off, rfl, hcell⟩ := h.at hi
  have ck := hcell 0 (.int .i64 K) (by omega) (by rw [← hK]; rfl)
  rw [Nat.add_zero] at ck
  have HLT : Hid (∀ k ∈ kidsF l (i : Int), k < l.length) := kidsF_lt
  have q0 : decide ((i : Int) < 0) = false := decide_eq_false (by omega)
  have q1 : decide ((i : Int) ≥ (l.length : Int)) = false := decide_eq_false (by omega)
  have q2 : decide (l.length ≤ i) = false := decide_eq_false (by omega)
  by_cases hk7 : K = 7
  · have HF : Hid (memF l (i : Int) key = memL l key (kidsF l (i : Int))) := by show _ = _; unfold memF; rw [if_pos ⟨by omega, by omega, by rw [Int.toNat_natCast, hK]; exact hk7⟩]
    have hlen : (kidsF l (i : Int)).length ≤ 1000000000 := by
      unfold kidsF
      rw [if_pos ⟨by omega, by omega⟩]
      have := kidsF_len (v := l) (l.length + 1) (i + 1) (l.getD i (nd0 0)).kids (by omega)
      rw [Int.toNat_natCast]
      omega
    subst hk7
    generalize kidsF l (i : Int) = L at *
    generalize memF l (i : Int) key = M at *
    clear h hcell hK hA
    go_enter Tryd.func17, Tryd.ntmps17
    go_wp2_with fail
    refine CK.mono ?_
    clear CK
    rintro e w2 ⟨r, rfl, hoi⟩
    obtain ⟨ka, kc, rfl, hkc, hkat⟩ := hoi.at
    have HO : Hid (OI w.heap.size w w2 (.slice ka L.length kc) L) := hoi
    have HAT : Hid (∀ j, j < L.length → ∃ g, ka = some ⟨g, 0, none⟩ ∧ w2.cell? ⟨g, j, none⟩ = some (iV (L.getD j 0))) := hkat
    have HN2 : Hid (NR w2 (.slice (some ⟨g, off, none⟩) l.length cap) l (some ⟨g, off, none⟩) cap) := HN.out.below hoi.bel (Nat.le_refl _)
    clear hoi hkat ck
    go_wp2
    go_loop [8] (fun s => ∃ j : Nat, s = .int .i64 j ∧ j ≤ L.length ∧ memL l key (L.drop j) = M) (fun s => L.length - (intOf s).toNat)
    case atStart => exact ⟨0, rfl, Nat.zero_le _, HF.out.symm⟩
    case round =>
      obtain ⟨j, rfl, hj, hm⟩ := hrel
      have HM : Hid (memL l key (L.drop j) = M) := hm
      clear hm
      by_cases hjl : j < L.length
      · have q3 : decide ((j : Int) < (L.length : Int)) = true := by simp; omega
        obtain ⟨kg, rfl, ckj⟩ := HAT.out j hjl
        have hm2 := HM.out
        rw [memL_cons hjl] at hm2
        have hkl : L.getD j 0 < l.length := HLT.out _ (by rw [List.getD_eq_getElem?_getD, List.getElem?_eq_getElem hjl]; exact List.getElem_mem hjl)
        generalize L.getD j 0 = k at *
        have HM2 : Hid ((if (l.getD k (nd0 0)).key = key then (k : Int) else memL l key (L.drop (j + 1))) = M) := hm2
        obtain ⟨g', off', e', hc2⟩ := HN2.out.at hkl
        cases e'
        obtain ⟨Y, hY⟩ : ∃ Y, (l.getD k (nd0 0)).key = Y := ⟨_, rfl⟩
        have cky := hc2 1 (.string ⟨Y.toArray⟩) (by omega) (by rw [← hY]; rfl)
        unfold iV at ckj
        rw [hY] at HM2
        clear hm2 hc2 hY HM
        by_cases hYk : Y = key
        · have HE : Hid (M = (k : Int)) := by show _ = _; rw [← HM2.out, if_pos hYk]
          subst hYk
          clear HM2
          go_wp2
          go_ret
          rw [HE.out]
          exact ⟨rfl, HO.out.bel⟩
        · have HE : Hid (memL l key (L.drop (j + 1)) = M) := by show _ = _; rw [← HM2.out, if_neg hYk]
          have hYb : (Y == key) = false := by simpa using hYk
          clear HM2 hYk
          go_wp2
          go_round
          case rel => exact ⟨j + 1, by go_num, by omega, HE.out⟩
          case measure => simp [intOf]; omega
      · have q3 : decide ((j : Int) < (L.length : Int)) = false := by simp; omega
        have HE : Hid (M = -1) := by show _ = _; rw [← HM.out, List.drop_eq_nil_of_le (by omega)]; rfl
        clear HM
        go_wp2
        go_ret
        rw [HE.out]
        exact ⟨rfl, HO.out.bel⟩
  · have HF : Hid (memF l (i : Int) key = -1) := by show _ = _; unfold memF; rw [if_neg (by rw [Int.toNat_natCast, hK]; exact fun hx => hk7 hx.2.2)]
    have hkb : (K != 7) = true := by simpa using hk7
    clear h hcell hK CK hA
    go_enter Tryd.func17, Tryd.ntmps17
    go_wp2
    go_ret
    rw [HF.out]
    exact ⟨rfl, Below.refl _ _⟩

end Go.Proofs.YtkfchdmlemcjhaaDoor
