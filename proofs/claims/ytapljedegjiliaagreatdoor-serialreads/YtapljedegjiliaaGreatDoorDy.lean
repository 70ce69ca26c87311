import Derived.Test.YtapljedegjiliaaGreatDoorDX
namespace Go.Proofs.YtapljedegjiliaaGreatDoor
open Go.RowKit Go.Shelf

set_option maxRecDepth 100000 in
set_option maxHeartbeats 4000000 in
/-- The document's Member, at a place of a well shaped value. -/
theorem rmember_any (l : List Nd) (ao : Option Addr) (cap i : Nat) (key : List UInt8) (w : World) (h : NR w (.slice ao l.length cap) l ao cap) (hl : l.length ≤ 262144) (hA : ∀ i, i < l.length → At l i) (hi : i < l.length) :
    Calls Tryz.prog 12 #[.slice ao l.length cap, .int .i64 (i : Int), .string ⟨key.toArray⟩] w fun e w' => e = .returned (.int .i64 (memF l (i : Int) key)) ∧ Below w.heap.size w w' := by
  obtain ⟨_, hc, _⟩ := id h
  obtain ⟨K, hK⟩ : ∃ K, (l.getD i (nd0 0)).kind = K := ⟨_, rfl⟩
  have CK := rkids_any l ao cap i w h hl hA hi
  have HN : Hid (NR w (.slice ao l.length cap) l ao cap) := h
  obtain ⟨g, off, rfl, hcell⟩ := h.at hi
  have ck := hcell 0 (.int .i64 K) (by omega) (by rw [← hK]; rfl)
  rw [Nat.add_zero] at ck
  have HLT : Hid (∀ k ∈ kidsF l (i : Int), k < l.length) := kidsF_lt
  have q0 : decide ((i : Int) < 0) = false := decide_eq_false (by omega)
  have q1 : decide ((i : Int) ≥ (l.length : Int)) = false := decide_eq_false (by omega)
  have q2 : decide (l.length ≤ i) = false := decide_eq_false (by omega)
  by_cases hk7 : K = 7
  · have HF : Hid (memF l (i : Int) key = memL l key (kidsF l (i : Int))) := by show _ = _; unfold memF; rw [if_pos ⟨by omega, by omega, by rw [Int.toNat_natCast, hK]; exact hk7⟩]
    have hlen : (kidsF l (i : Int)).length ≤ 1000000000 := by
      unfold kidsF
      rw [if_pos ⟨by omega, by omega⟩]
      have := kidsF_len (v := l) (l.length + 1) (i + 1) (l.getD i (nd0 0)).kids (by omega)
      rw [Int.toNat_natCast]
      omega
    subst hk7
    generalize kidsF l (i : Int) = L at *
    generalize memF l (i : Int) key = M at *
    clear h hcell hK hA
    go_enter Tryz.func12, Tryz.ntmps12
    go_wp2_with fail
    refine CK.mono ?_
    clear CK
    rintro e w2 ⟨r, rfl, hoi⟩
    obtain ⟨ka, kc, rfl, hkc, hkat⟩ := hoi.at
    have HO : Hid (OI w.heap.size w w2 (.slice ka L.length kc) L) := hoi
    have HAT : Hid (∀ j, j < L.length → ∃ g, ka = some ⟨g, 0, none⟩ ∧ w2.cell? ⟨g, j, none⟩ = some (iV (L.getD j 0))) := hkat
    have HN2 : Hid (NR w2 (.slice (some ⟨g, off, none⟩) l.length cap) l (some ⟨g, off, none⟩) cap) := HN.out.below hoi.bel (Nat.le_refl _)
    clear hoi hkat ck
    go_wp2
    go_loop [8] (fun s => ∃ j : Nat, s = .int .i64 j ∧ j ≤ L.length ∧ memL l key (L.drop j) = M) (fun s => L.length - (intOf s).toNat)
    case atStart => exact ⟨0, rfl, Nat.zero_le _, HF.out.symm⟩
    case round =>
      obtain ⟨j, rfl, hj, hm⟩ := hrel
      have HM : Hid (memL l key (L.drop j) = M) := hm
      clear hm
      by_cases hjl : j < L.length
      · have q3 : decide ((j : Int) < (L.length : Int)) = true := by simp; omega
        obtain ⟨kg, rfl, ckj⟩ := HAT.out j hjl
        have hm2 := HM.out
        rw [memL_cons hjl] at hm2
        have hkl : L.getD j 0 < l.length := HLT.out _ (by rw [List.getD_eq_getElem?_getD, List.getElem?_eq_getElem hjl]; exact List.getElem_mem hjl)
        generalize L.getD j 0 = k at *
        have HM2 : Hid ((if (l.getD k (nd0 0)).key = key then (k : Int) else memL l key (L.drop (j + 1))) = M) := hm2
        obtain ⟨g', off', e', hc2⟩ := HN2.out.at hkl
        cases e'
        obtain ⟨Y, hY⟩ : ∃ Y, (l.getD k (nd0 0)).key = Y := ⟨_, rfl⟩
        have cky := hc2 1 (.string ⟨Y.toArray⟩) (by omega) (by rw [← hY]; rfl)
        unfold iV at ckj
        rw [hY] at HM2
        clear hm2 hc2 hY HM
        by_cases hYk : Y = key
        · have HE : Hid (M = (k : Int)) := by show _ = _; rw [← HM2.out, if_pos hYk]
          subst hYk
          clear HM2
          go_wp2
          go_ret
          rw [HE.out]
          exact ⟨rfl, HO.out.bel⟩
        · have HE : Hid (memL l key (L.drop (j + 1)) = M) := by show _ = _; rw [← HM2.out, if_neg hYk]
          have hYb : (Y == key) = false := by simpa using hYk
          clear HM2 hYk
          go_wp2
          go_round
          case rel => exact ⟨j + 1, by go_num, by omega, HE.out⟩
          case measure => simp [intOf]; omega
      · have q3 : decide ((j : Int) < (L.length : Int)) = false := by simp; omega
        have HE : Hid (M = -1) := by show _ = _; rw [← HM.out, List.drop_eq_nil_of_le (by omega)]; rfl
        clear HM
        go_wp2
        go_ret
        rw [HE.out]
        exact ⟨rfl, HO.out.bel⟩
  · have HF : Hid (memF l (i : Int) key = -1) := by show _ = _; unfold memF; rw [if_neg (by rw [Int.toNat_natCast, hK]; exact fun hx => hk7 hx.2.2)]
    have hkb : (K != 7) = true := by simpa using hk7
    clear h hcell hK CK hA
    go_enter Tryz.func12, Tryz.ntmps12
    go_wp2
    go_ret
    rw [HF.out]
    exact ⟨rfl, Below.refl _ _⟩

end Go.Proofs.YtapljedegjiliaaGreatDoor
