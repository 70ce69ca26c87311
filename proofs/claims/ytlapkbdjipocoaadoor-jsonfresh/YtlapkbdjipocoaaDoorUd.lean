import Derived.Test.YtlapkbdjipocoaaDoorUc
namespace Go.Proofs.YtlapkbdjipocoaaDoor
open Go.RowKit Go.Shelf

theorem pk_end {v : List Nd} {sv : Nat → List (Nat × List UInt8) → Option (Nat × List (Nat × List UInt8))} {pv : Nat → List UInt8 × Nat} (hp : ∀ i m j m', sv i m = some (j, m') → (pv i).2 = j) (obj : Bool) : ∀ (f : Nat) (n : Int) (i : Nat) (m : List (Nat × List UInt8)) (j : Nat) (m' : List (Nat × List UInt8)) (first : Bool), skF sv f n i m = some (j, m') → (pkF pv v obj f first n i).2 = j
  | 0, n, i, m, j, m', first, h => by
    unfold skF at h
    split at h
    · cases h
    · cases h; rfl
  | f + 1, n, i, m, j, m', first, h => by
    unfold skF at h
    unfold pkF
    split at h
    · rename_i hn
      rw [if_pos hn]
      split at h
      · cases h
      · rename_i j1 m1 e
        show (pkF pv v obj f false (n - 1) (pv i).2).2 = j
        rw [hp _ _ _ _ e]
        exact pk_end hp obj f (n - 1) j1 m1 j m' false h
    · rename_i hn
      rw [if_neg hn]
      cases h; rfl

theorem svF_parts {v : List Nd} {f i : Nat} {a d : Int} {m : List (Nat × List UInt8)} {j : Nat} {m' : List (Nat × List UInt8)} (h : svF v (f + 1) i a d m = some (j, m')) : i < v.length ∧ wmF (v.getD i (nd0 0)) d = true ∧ ∃ m2, skF (fun j m => svF v f j (i : Int) (d + 1) m) (v.length + 1) (v.getD i (nd0 0)).kids (i + 1) m2 = some (j, m') := by
  unfold svF at h
  split at h
  · rename_i hi
    split at h
    · cases h
    · rename_i m2 e
      exact ⟨hi.1, hi.2, m2, h⟩
  · cases h
theorem wm_kind {n : Nd} {d : Int} (h : wmF n d = true) : (1 ≤ n.kind ∧ n.kind ≤ 7) ∧ (n.kind < 6 → n.kids = 0) := by
  unfold wmF at h
  split at h
  · have h2 : n.kids = 0 := congrArg Nd.kids (of_decide_eq_true h)
    omega
  · split at h
    · simp only [Bool.and_eq_true] at h
      have h2 : n.kids = 0 := congrArg Nd.kids (of_decide_eq_true h.2)
      omega
    · split at h
      · simp only [Bool.and_eq_true] at h
        have h2 : n.kids = 0 := congrArg Nd.kids (of_decide_eq_true h.2)
        omega
      · split at h
        · omega
        · cases h
theorem sk_zero {sv : Nat → List (Nat × List UInt8) → Option (Nat × List (Nat × List UInt8))} {f i j : Nat} {m m' : List (Nat × List UInt8)} (h : skF sv f 0 i m = some (j, m')) : j = i := by
  cases f <;> (unfold skF at h; rw [if_neg (by omega)] at h; cases h; rfl)

theorem prF_end {v : List Nd} : ∀ (f i : Nat) (a d : Int) (m : List (Nat × List UInt8)) (j : Nat) (m' : List (Nat × List UInt8)), svF v f i a d m = some (j, m') → (prF v f i).2 = j
  | 0, i, a, d, m, j, m', h => by unfold svF at h; cases h
  | f + 1, i, a, d, m, j, m', h => by
    obtain ⟨hi, hw, m2, hs⟩ := svF_parts h
    have hk := wm_kind hw
    have hleaf : (v.getD i (nd0 0)).kind < 6 → j = i + 1 := fun hlt => by
      rw [hk.2 hlt] at hs
      exact sk_zero hs
    have hin : ∀ obj, (pkF (prF v f) v obj (v.length + 1) true (v.getD i (nd0 0)).kids (i + 1)).2 = j := fun obj => pk_end (fun i2 m3 j2 m4 h2 => prF_end f i2 _ _ m3 j2 m4 h2) obj _ _ _ m2 j m' true hs
    unfold prF
    simp only
    split
    · exact (hleaf (by omega)).symm
    · split
      · exact (hleaf (by omega)).symm
      · split
        · exact (hleaf (by omega)).symm
        · split
          · exact (hleaf (by omega)).symm
          · split
            · exact (hleaf (by omega)).symm
            · split
              · exact hin false
              · split
                · exact hin true
                · omega

/-- What the writer's value does, so deep at most. -/
def WvC (w0 : World) (l : List Nd) (ao : Option Addr) (cap f : Nat) : Prop := ∀ (w : World) (b : Nat) (full : List UInt8) (i : Nat) (a d : Int) (m : List (Nat × List UInt8)) (j : Nat) (m' : List (Nat × List UInt8)), Below w0.heap.size w0 w → WE w0.heap.size w b full → svF l f i a d m = some (j, m') →
    Calls Tryd.prog 37 #[.pointer (some ⟨b, 0, none⟩), .slice ao l.length cap, .int .i64 (i : Int)] w fun e w' => e = .returned (.int .i64 (j : Int)) ∧ Below w0.heap.size w0 w' ∧ WE w0.heap.size w' b (full ++ (prF l f i).1)
def WiC (w0 : World) (l : List Nd) (ao : Option Addr) (cap f : Nat) : Prop := ∀ (w : World) (b : Nat) (full : List UInt8) (i : Nat) (d : Int) (m : List (Nat × List UInt8)) (j : Nat) (m' : List (Nat × List UInt8)) (o c : UInt8), Below w0.heap.size w0 w → WE w0.heap.size w b full → i < l.length → skF (fun j m => svF l f j (i : Int) (d + 1) m) (l.length + 1) (l.getD i (nd0 0)).kids (i + 1) m = some (j, m') →
    Calls Tryd.prog 52 #[.pointer (some ⟨b, 0, none⟩), .slice ao l.length cap, .int .i64 (i : Int), .string { data := #[o] }, .string { data := #[c] }] w fun e w' => e = .returned (.int .i64 (j : Int)) ∧ Below w0.heap.size w0 w' ∧ WE w0.heap.size w' b (full ++ (o :: ((pkF (prF l f) l (decide ((l.getD i (nd0 0)).kind = 7)) (l.length + 1) true (l.getD i (nd0 0)).kids (i + 1)).1 ++ [c])))

set_option maxRecDepth 100000 in
set_option maxHeartbeats 16000000 in
theorem inner_step (w0 : World) (l : List Nd) (ao : Option Addr) (cap f : Nat) (h : NR w0 (.slice ao l.length cap) l ao cap) (ht : TB l) (hl : l.length ≤ 1000000000) (ih : WvC w0 l ao cap f) : WiC w0 l ao cap f := by
  intro w b full i d m j m' o c hb hw hi hs
  have HP : Hid (∀ (wq : World) (F p : List UInt8), WE w0.heap.size wq b F → p.length ≤ 1073741824 → Calls Tryd.prog 50 #[.pointer (some ⟨b, 0, none⟩), .string ⟨p.toArray⟩] wq fun e w' => e = .returned (.tuple #[]) ∧ Below w0.heap.size wq w' ∧ WE w0.heap.size w' b (F ++ p)) := fun wq F p h hp => put_we p h hp
  have HQ : Hid (∀ (wq : World) (F p : List UInt8), WE w0.heap.size wq b F → p.length ≤ 1073741824 → Calls Tryd.prog 51 #[.pointer (some ⟨b, 0, none⟩), .string ⟨p.toArray⟩] wq fun e w' => e = .returned (.tuple #[]) ∧ Below w0.heap.size wq w' ∧ WE w0.heap.size w' b (F ++ quoS p)) := fun wq F p h hp => quote_any p h hp
  have C0 : Calls Tryd.prog 50 #[.pointer (some ⟨b, 0, none⟩), .string { data := #[o] }] w fun e w' => e = .returned (.tuple #[]) ∧ Below w0.heap.size w w' ∧ WE w0.heap.size w' b (full ++ [o]) := HP.out w full [o] hw (by simp)
  have HB : Hid (Below w0.heap.size w0 w) := hb
  have HN : Hid (∀ wq, Below w0.heap.size w0 wq → NR wq (.slice ao l.length cap) l ao cap) := fun wq hq => h.below hq (Nat.le_refl _)
  have IH : Hid (WvC w0 l ao cap f) := ih
  obtain ⟨K, hK⟩ : ∃ K, (l.getD i (nd0 0)).kids = K := ⟨_, rfl⟩
  obtain ⟨Kd, hKd⟩ : ∃ Kd, (l.getD i (nd0 0)).kind = Kd := ⟨_, rfl⟩
  rw [hK] at hs
  rw [hK, hKd]
  obtain ⟨T, hT⟩ : ∃ T, full ++ (o :: ((pkF (prF l f) l (decide (Kd = 7)) (l.length + 1) true K (i + 1)).1 ++ [c])) = T := ⟨_, rfl⟩
  rw [hT]
  have HT : Hid ((full ++ [o]) ++ (pkF (prF l f) l (decide (Kd = 7)) (l.length + 1) true K (i + 1)).1 ++ [c] = T) := by show _ = _; rw [← hT]; simp
  have HS : Hid (skF (fun j m => svF l f j (i : Int) (d + 1) m) (l.length + 1) K (i + 1) m = some (j, m')) := hs
  have HTB : Hid (TB l) := ht
  obtain ⟨g, off, rfl, _⟩ := h.at hi
  have HC : Hid (∀ wq, Below w0.heap.size w0 wq → wq.cell? ⟨g, off + i * 6 + 5, none⟩ = some (.int .i64 K) ∧ wq.cell? ⟨g, off + i * 6, none⟩ = some (.int .i64 Kd)) := fun wq hq => by
    obtain ⟨g', off', e', hc⟩ := (h.below hq (Nat.le_refl _)).at hi
    cases e'
    refine ⟨hc 5 _ (by omega) (by rw [← hK]; rfl), ?_⟩
    have := hc 0 (.int .i64 Kd) (by omega) (by rw [← hKd]; rfl)
    rwa [Nat.add_zero] at this
  clear h ht ih hb hw hs hK hKd hT
  go_enter Tryd.func52, Tryd.ntmps52
  go_wp2_with fail
  refine C0.mono ?_
  clear C0
  rintro e w1 ⟨rfl, hB1, hW1⟩
  have HB1 : Hid (Below w0.heap.size w0 w1) := HB.out.trans hB1
  have HW1 : Hid (WE w0.heap.size w1 b (full ++ [o])) := hW1
  have k5 := (HC.out w1 HB1.out).1
  clear hB1 hW1
  go_wp2
  go_loopw [11, 23] (fun s11 s23 wx => ∃ (cn k : Nat) (m2 : List (Nat × List UInt8)) (F : List UInt8), s23 = .int .i64 cn ∧ s11 = .int .i64 k ∧ cn < k ∧ k ≤ l.length ∧ Below w0.heap.size w0 wx ∧ WE w0.heap.size wx b F ∧ skF (fun j m => svF l f j (i : Int) (d + 1) m) (l.length + 1) (K - cn) k m2 = some (j, m') ∧ F ++ (pkF (prF l f) l (decide (Kd = 7)) (l.length + 1 - cn) (decide (cn = 0)) (K - cn) k).1 ++ [c] = T) (fun s _ _ => l.length - (intOf s).toNat)
  case atStart => exact ⟨0, i + 1, m, full ++ [o], rfl, by go_num, by omega, by omega, HB1.out, HW1.out, by have := HS.out; simpa using this, by have := HT.out; simpa using this⟩
  case round =>
    obtain ⟨cn, k, m2, F, rfl, rfl, hck, hk, hb, hw, hs, htt⟩ := hrel
    obtain ⟨g2, hg2⟩ : ∃ g2, l.length + 1 - cn = g2 + 1 := ⟨l.length - cn, by omega⟩
    rw [hg2] at htt
    have HBr : Hid (Below w0.heap.size w0 wr) := hb
    have HWr : Hid (WE w0.heap.size wr b F) := hw
    by_cases hn : (cn : Int) < K
    · have q0 : decide ((cn : Int) < K) = true := decide_eq_true hn
      unfold skF at hs
      rw [if_pos (by omega)] at hs
      unfold pkF at htt
      rw [if_pos (by omega)] at htt
      split at hs
      · cases hs
      · rename_i j1 m3 e1
        have hgt := svF_gt f k _ _ m2 j1 m3 e1
        have hpe := prF_end f k _ _ m2 j1 m3 e1
        rw [hpe] at htt
        have hkl : k < l.length := by omega
        have HS2 : Hid (skF (fun j m => svF l f j (i : Int) (d + 1) m) (l.length + 1) (K - ((cn + 1 : Nat) : Int)) j1 m3 = some (j, m')) := by
          show _ = _
          rw [← hs, skF_fuel (v := l) (fun i m j m' h => svF_gt f i _ _ m j m' h) (fun i m h => svF_out f i _ _ m h) (l.length + 1) l.length _ j1 m3 (by omega) (by omega)]
          congr 1
          omega
        have hkey := (HTB.out.at hkl).2
        obtain ⟨Y, hY⟩ : ∃ Y, (l.getD k (nd0 0)).key = Y := ⟨_, rfl⟩
        rw [hY] at hkey htt
        have HV : Hid (∀ wq F2, Below w0.heap.size w0 wq → WE w0.heap.size wq b F2 → Calls Tryd.prog 37 #[.pointer (some ⟨b, 0, none⟩), .slice (some ⟨g, off, none⟩) l.length cap, .int .i64 (k : Int)] wq fun e w' => e = .returned (.int .i64 (j1 : Int)) ∧ Below w0.heap.size w0 w' ∧ WE w0.heap.size w' b (F2 ++ (prF l f k).1)) := fun wq F2 hq hw2 => IH.out wq b F2 k _ _ m2 j1 m3 hq hw2 e1
        have HKY : Hid (∀ wq, Below w0.heap.size w0 wq → wq.cell? ⟨g, off + k * 6 + 1, none⟩ = some (.string ⟨Y.toArray⟩)) := fun wq hq => by
          obtain ⟨g', off', e', hc⟩ := (HN.out wq hq).at hkl
          cases e'
          exact hc 1 _ (by omega) (by rw [← hY]; rfl)
        have hj1 := hgt.1
        have hj2 := hgt.2
        generalize (prF l f k).1 = P at *
        have hg3 : l.length + 1 - (cn + 1) = g2 := by omega
        have HG3 : Hid (l.length + 1 - (cn + 1) = g2) := hg3
        have HKc : Hid (K - cn - 1 = K - ((cn + 1 : Nat) : Int)) := by show _ = _; omega
        have HTT : Hid (F ++ ((((if decide (cn = 0) = true then [] else [44]) ++ (if decide (Kd = 7) = true then quoS Y ++ [58] else []) ++ P) ++ (pkF (prF l f) l (decide (Kd = 7)) g2 false (K - ((cn + 1 : Nat) : Int)) j1).1)) ++ [c] = T) := by show _ = _; rw [← HKc.out]; exact htt
        have HCM : Hid (∀ wq F2, WE w0.heap.size wq b F2 → Calls Tryd.prog 50 #[.pointer (some ⟨b, 0, none⟩), .string { data := #[44] }] wq fun e w' => e = .returned (.tuple #[]) ∧ Below w0.heap.size wq w' ∧ WE w0.heap.size w' b (F2 ++ [44])) := fun wq F2 h => HP.out wq F2 [44] h (by simp)
        have HCL : Hid (∀ wq F2, WE w0.heap.size wq b F2 → Calls Tryd.prog 50 #[.pointer (some ⟨b, 0, none⟩), .string { data := #[58] }] wq fun e w' => e = .returned (.tuple #[]) ∧ Below w0.heap.size wq w' ∧ WE w0.heap.size w' b (F2 ++ [58])) := fun wq F2 h => HP.out wq F2 [58] h (by simp)
        clear htt hs hb hw hgt hpe e1 hY hg3 hg2 HS HT k5
        by_cases hc0 : cn = 0
        · have qc : decide ((cn : Int) > 0) = false := decide_eq_false (by omega)
          have k0 := (HC.out wr HBr.out).2
          by_cases h7 : Kd = 7
          · have HTT2 : Hid ((F ++ quoS Y ++ [58] ++ P) ++ (pkF (prF l f) l (decide (Kd = 7)) g2 false (K - ((cn + 1 : Nat) : Int)) j1).1 ++ [c] = T) := by show _ = _; rw [← HTT.out]; simp [hc0, h7]
            have q7 : (Kd == 7) = true := by simpa using h7
            subst hc0
            subst h7
            have ky := HKY.out wr HBr.out
            have C1 := HQ.out wr F Y HWr.out hkey
            clear HTT
            go_wp2_with fail
            refine C1.mono ?_
            clear C1
            rintro e w2 ⟨rfl, hB2, hW2⟩
            have C2 := HCL.out w2 _ hW2
            have HB2 : Hid (Below w0.heap.size w0 w2) := HBr.out.trans hB2
            clear hB2 hW2
            go_wp2_with fail
            refine C2.mono ?_
            clear C2
            rintro e w3 ⟨rfl, hB3, hW3⟩
            have C3 := HV.out w3 _ (HB2.out.trans hB3) hW3
            clear hB3 hW3
            go_wp2_with fail
            refine C3.mono ?_
            clear C3
            rintro e w4 ⟨rfl, hB4, hW4⟩
            have HB4 : Hid (Below w0.heap.size w0 w4) := hB4
            have HW4 : Hid (WE w0.heap.size w4 b (F ++ quoS Y ++ [58] ++ P)) := hW4
            clear hB4 hW4 ky k0
            go_wp2
            go_roundw
            case rel => exact ⟨0 + 1, j1, m3, _, by go_num, rfl, by omega, hj2, HB4.out, HW4.out, HS2.out, by rw [HG3.out]; exact HTT2.out⟩
            case measure => simp [intOf]; omega
          · have HTT2 : Hid ((F ++ P) ++ (pkF (prF l f) l (decide (Kd = 7)) g2 false (K - ((cn + 1 : Nat) : Int)) j1).1 ++ [c] = T) := by show _ = _; rw [← HTT.out]; simp [hc0, h7]
            have q7 : (Kd == 7) = false := by simpa using h7
            subst hc0
            have C3 := HV.out wr _ HBr.out HWr.out
            clear HTT h7
            go_wp2_with fail
            refine C3.mono ?_
            clear C3
            rintro e w4 ⟨rfl, hB4, hW4⟩
            have HB4 : Hid (Below w0.heap.size w0 w4) := hB4
            have HW4 : Hid (WE w0.heap.size w4 b (F ++ P)) := hW4
            clear hB4 hW4 k0
            go_wp2
            go_roundw
            case rel => exact ⟨0 + 1, j1, m3, _, by go_num, rfl, by omega, hj2, HB4.out, HW4.out, HS2.out, by rw [HG3.out]; exact HTT2.out⟩
            case measure => simp [intOf]; omega
        · have qc : decide ((cn : Int) > 0) = true := decide_eq_true (by omega)
          have C0 := HCM.out wr F HWr.out
          by_cases h7 : Kd = 7
          · have HTT2 : Hid ((F ++ [44] ++ quoS Y ++ [58] ++ P) ++ (pkF (prF l f) l (decide (Kd = 7)) g2 false (K - ((cn + 1 : Nat) : Int)) j1).1 ++ [c] = T) := by show _ = _; rw [← HTT.out]; simp [hc0, h7]
            have q7 : (Kd == 7) = true := by simpa using h7
            clear HTT
            subst h7
            go_wp2_with fail
            refine C0.mono ?_
            clear C0
            rintro e w1 ⟨rfl, hB1, hW1⟩
            have HBx : Hid (Below w0.heap.size w0 w1) := HBr.out.trans hB1
            have k0 := (HC.out w1 HBx.out).2
            have ky := HKY.out w1 HBx.out
            have C1 := HQ.out w1 _ Y hW1 hkey
            clear hB1 hW1
            go_wp2_with fail
            refine C1.mono ?_
            clear C1
            rintro e w2 ⟨rfl, hB2, hW2⟩
            have C2 := HCL.out w2 _ hW2
            have HB2 : Hid (Below w0.heap.size w0 w2) := HBx.out.trans hB2
            clear hB2 hW2
            go_wp2_with fail
            refine C2.mono ?_
            clear C2
            rintro e w3 ⟨rfl, hB3, hW3⟩
            have C3 := HV.out w3 _ (HB2.out.trans hB3) hW3
            clear hB3 hW3
            go_wp2_with fail
            refine C3.mono ?_
            clear C3
            rintro e w4 ⟨rfl, hB4, hW4⟩
            have HB4 : Hid (Below w0.heap.size w0 w4) := hB4
            have HW4 : Hid (WE w0.heap.size w4 b (F ++ [44] ++ quoS Y ++ [58] ++ P)) := hW4
            clear hB4 hW4 ky k0
            go_wp2
            go_roundw
            case rel => exact ⟨cn + 1, j1, m3, _, by go_num, rfl, by omega, hj2, HB4.out, HW4.out, HS2.out, by rw [HG3.out, show decide (cn + 1 = 0) = false by simp]; exact HTT2.out⟩
            case measure => simp [intOf]; omega
          · have HTT2 : Hid ((F ++ [44] ++ P) ++ (pkF (prF l f) l (decide (Kd = 7)) g2 false (K - ((cn + 1 : Nat) : Int)) j1).1 ++ [c] = T) := by show _ = _; rw [← HTT.out]; simp [hc0, h7]
            have q7 : (Kd == 7) = false := by simpa using h7
            clear HTT h7
            go_wp2_with fail
            refine C0.mono ?_
            clear C0
            rintro e w1 ⟨rfl, hB1, hW1⟩
            have HBx : Hid (Below w0.heap.size w0 w1) := HBr.out.trans hB1
            have k0 := (HC.out w1 HBx.out).2
            have C3 := HV.out w1 _ HBx.out hW1
            clear hB1 hW1
            go_wp2_with fail
            refine C3.mono ?_
            clear C3
            rintro e w4 ⟨rfl, hB4, hW4⟩
            have HB4 : Hid (Below w0.heap.size w0 w4) := hB4
            have HW4 : Hid (WE w0.heap.size w4 b (F ++ [44] ++ P)) := hW4
            clear hB4 hW4 k0
            go_wp2
            go_roundw
            case rel => exact ⟨cn + 1, j1, m3, _, by go_num, rfl, by omega, hj2, HB4.out, HW4.out, HS2.out, by rw [HG3.out, show decide (cn + 1 = 0) = false by simp]; exact HTT2.out⟩
            case measure => simp [intOf]; omega
    · have q0 : decide ((cn : Int) < K) = false := decide_eq_false hn
      have HJ : Hid (j = k) := by
        show _ = _
        unfold skF at hs
        rw [if_neg (by omega)] at hs
        cases hs
        rfl
      have HTT : Hid (F ++ [c] = T) := by
        show _ = _
        rw [← htt]
        unfold pkF
        rw [if_neg (by omega), List.append_nil]
      have C9 : Calls Tryd.prog 50 #[.pointer (some ⟨b, 0, none⟩), .string { data := #[c] }] wr fun e w' => e = .returned (.tuple #[]) ∧ Below w0.heap.size wr w' ∧ WE w0.heap.size w' b (F ++ [c]) := HP.out wr F [c] hw (by simp)
      clear htt hs hb hw hg2
      go_wp2_with fail
      refine C9.mono ?_
      clear C9
      rintro e w4 ⟨rfl, hB4, hW4⟩
      go_wp2
      go_ret
      rw [HJ.out, ← HTT.out]
      exact ⟨rfl, HBr.out.trans hB4, hW4⟩

end Go.Proofs.YtlapkbdjipocoaaDoor
