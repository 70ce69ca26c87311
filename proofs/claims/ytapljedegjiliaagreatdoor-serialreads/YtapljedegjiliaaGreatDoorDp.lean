import Derived.Test.YtapljedegjiliaaGreatDoorDo
import Derived.Deep.CutRange
namespace Go.Proofs.YtapljedegjiliaaGreatDoor
open Go.RowKit Go.Shelf

/-- What stands in a row's round. -/
structure RI (w wx : World) (s1 s2 : Value) (L : List Nd) (nl : List (List UInt8)) : Prop where
  bel : Below w.heap.size w wx
  lt : w.heap.size < wx.heap.size
  box : Bl 50 wx w.heap.size (gotC 0 nilV [] 0 0)
  no : NO (w.heap.size + 1) wx s1 L
  os : OS (w.heap.size + 1) wx s2 nl
theorem RI.below {w wx wy : World} {s1 s2 : Value} {L : List Nd} {nl : List (List UInt8)} (h : RI w wx s1 s2 L nl) (hb : Below wx.heap.size wx wy) : RI w wy s1 s2 L nl :=
  ⟨h.bel.trans (hb.mono h.bel.size), Nat.lt_of_lt_of_le h.lt hb.size, bl_below h.box hb, own_below h.no hb (Nat.le_refl _), own_below h.os hb (Nat.le_refl _)⟩
theorem RI.name {w wx wy : World} {s1 s2 s2' : Value} {L : List Nd} {nl nl' : List (List UInt8)} (h : RI w wx s1 s2 L nl) (hg : wx.grownBy wy s2.ownBlock) (ho : OS (w.heap.size + 1) wy s2' nl') : RI w wy s1 s2' L nl' :=
  ⟨h.bel.grown hg (Nat.le_of_lt h.lt) (fun k hk => by have := World.ownsRow.lt h.os k hk; omega), Nat.lt_of_lt_of_le h.lt hg.size, bl_grown h.box hg (fun e => by have := World.ownsRow.lt h.os _ e; omega), World.ownsRow.kept h.no hg (by
    cases e : s1.ownBlock with
    | none => exact .inl rfl
    | some g => exact .inr (fun e2 => kinds_apart h.no h.os (by decide) e e2.symm)), ho⟩
theorem RI.nodes {w wx wy : World} {s1 s2 s1' : Value} {L L' : List Nd} {nl : List (List UInt8)} (h : RI w wx s1 s2 L nl) (hg : wx.grownBy wy s1.ownBlock) (ho : NO (w.heap.size + 1) wy s1' L') : RI w wy s1' s2 L' nl :=
  ⟨h.bel.grown hg (Nat.le_of_lt h.lt) (fun k hk => by have := World.ownsRow.lt h.no k hk; omega), Nat.lt_of_lt_of_le h.lt hg.size, bl_grown h.box hg (fun e => by have := World.ownsRow.lt h.no _ e; omega), ho, World.ownsRow.kept h.os hg (by
    cases e : s2.ownBlock with
    | none => exact .inl rfl
    | some g => exact .inr (fun e2 => kinds_apart h.os h.no (by decide) e e2.symm))⟩
theorem RI.kid {w wx : World} {s2 : Value} {g m cap k : Nat} {ob : Bool} {r : List Nd} {nl : List (List UInt8)} (h : RI w wx (.slice (some ⟨g, 0, none⟩) m cap) s2 (hdN ob k :: r) nl) : RI w (wx.setCell ⟨g, 5, none⟩ (.int .i64 ((k : Int) + 1))) (.slice (some ⟨g, 0, none⟩) m cap) s2 (hdN ob (k + 1) :: r) nl := by
  obtain ⟨g', cap', e, _, _⟩ := World.ownsRow.form h.no (by simp)
  have hm : m = (hdN ob k :: r).length := by cases e; rfl
  have h1 : wx.ownsRow (w.heap.size + 1) 38 6 (.slice (some ⟨g, 0, none⟩) m cap) m (nCs (hdN ob k :: r)) := by have := h.no; unfold NO at this; rw [← hm] at this; exact this
  have h2 := World.ownsRow.stored h1 5 (.int .i64 ((k : Int) + 1))
  refine h.nodes (by exact h2.2) ?_
  unfold NO
  rw [show (hdN ob (k + 1) :: r).length = m from hm.symm]
  exact h2.1
theorem RI.k5 {w wx : World} {s2 : Value} {g m cap k : Nat} {ob : Bool} {r : List Nd} {nl : List (List UInt8)} (h : RI w wx (.slice (some ⟨g, 0, none⟩) m cap) s2 (hdN ob k :: r) nl) : wx.cell? ⟨g, 5, none⟩ = some (.int .i64 (k : Int)) ∧ wx.frozen? ⟨g, 5, none⟩ = false := by
  obtain ⟨g', cap', e, _, _⟩ := World.ownsRow.form h.no (by simp)
  have hm : m = (hdN ob k :: r).length := by cases e; rfl
  have h1 : wx.ownsRow (w.heap.size + 1) 38 6 (.slice (some ⟨g, 0, none⟩) m cap) m (nCs (hdN ob k :: r)) := by have := h.no; unfold NO at this; rw [← hm] at this; exact this
  exact own_cell h1 5 _ rfl
theorem it_names {ob : Bool} {ns : List (List UInt8)} {y : List (List UInt8) × List Nd} {S : List UInt8} (h1 : ob = true → y.1 = ns ++ [S]) (h2 : ob = false → y.1 = ns) : y.1.length ≤ ns.length + 1 := by
  cases ob
  · rw [h2 rfl]; omega
  · rw [h1 rfl]; simp

set_option maxRecDepth 100000 in
set_option maxHeartbeats 16000000 in
theorem rrow_any (t : List UInt8) (op p0 : Nat) (ob : Bool) (w : World) (V : Nat → Lx (List Nd)) (hp0 : p0 < t.length) (ht : t.length ≤ 1000000) (hV : VOk t V)
    (hval : ∀ (q : Nat) (wq : World), q ≤ t.length → Calls Tryz.prog 17 #[.string ⟨t.toArray⟩, .int .i64 q, .int .i64 op] wq fun e w' => (∃ v, e = .returned v ∧ GotL (V q) v wq.heap.size w') ∧ Below wq.heap.size wq w') :
    Calls Tryz.prog 29 #[.string ⟨t.toArray⟩, .int .i64 p0, .bool ob, .int .i64 op] w fun e w' => (∃ v, e = .returned v ∧ GotL (rowD V t ob p0) v w.heap.size w') ∧ Below w.heap.size w w' := by
  have HV : Hid (VOk t V) := hV
  have HIt : Hid (∀ (p : Nat) (sv : Value) (ns : List (List UInt8)) (wq : World), p ≤ t.length → (ob = true → SR wq sv ns) → ns.length ≤ 1000000000 → Calls Tryz.prog 42 #[.string ⟨t.toArray⟩, .int .i64 p, .bool ob, sv, .int .i64 op] wq fun e w' => (∃ v, e = .returned v ∧ GotI ob ns (itD V t ob ns p) v wq.heap.size w') ∧ Below wq.heap.size wq w') := fun p sv ns wq h1 h2 h3 => ritem_any t op p ob sv ns wq V h1 ht h2 h3 hval (fun q L q2 e h0 => by have := (hV.ok q L q2 e).2.2.1; rw [h0] at this; simp at this) hV.bad
  obtain ⟨R, hR⟩ : ∃ R, rowD V t ob p0 = R := ⟨_, rfl⟩
  have HR : Hid (rowD V t ob p0 = R) := hR
  rw [hR]
  have HBox : Hid (Bl 50 (w.alloc (.cells (gotC 0 nilV [] 0 0).toArray 50)) w.heap.size (gotC 0 nilV [] 0 0)) := alloc_bl _ _ _
  have HB : Hid (Below w.heap.size w (w.alloc (.cells (gotC 0 nilV [] 0 0).toArray 50))) := alloc_below _ _
  have HSz : Hid ((w.alloc (.cells (gotC 0 nilV [] 0 0).toArray 50)).heap.size = w.heap.size + 1) := alloc_size _ _
  generalize hw1 : w.alloc (.cells (gotC 0 nilV [] 0 0).toArray 50) = w1 at HBox HB HSz
  have HW1 : Hid (w.alloc (.cells #[.int .i64 0, .slice none 0 0, .string ⟨#[]⟩, .int .i64 0, .int .i64 0] 50) = w1) := hw1
  have hgi : (Tryz.prog.info? 50).map (·.size) = some 5 := by kernel_rfl
  clear hw1 hval hR hV
  obtain ⟨kI, hkI⟩ : ∃ kI : Int, (if ob = true then 7 else 6) = kI := ⟨_, rfl⟩
  obtain ⟨cl, hcl⟩ : ∃ cl, clB ob = cl := ⟨_, rfl⟩
  have HK : Hid ((if ob = true then 7 else 6) = kI) := hkI
  have HC : Hid (clB ob = cl) := hcl
  clear hkI hcl
  go_enter Tryz.func29, Tryz.ntmps29
  go_upto_if 14 with fail
  go_cut [9, 10] from 14 to 14 (fun s9 s10 wx => s9 = .int .i64 kI ∧ s10 = .int .i64 cl ∧ wx = w1)
  case first =>
    cases ob
    · have e1 : 6 = kI := HK.out
      have e2 : 93 = cl := HC.out
      clear HK HC
      go_wp2
      go_meet
      exact ⟨by first | rfl | rw [e1], by first | rfl | rw [e2], HW1.out⟩
    · have e1 : 7 = kI := HK.out
      have e2 : 125 = cl := HC.out
      clear HK HC
      go_wp2
      go_meet
      exact ⟨by first | rfl | rw [e1], by first | rfl | rw [e2], HW1.out⟩
  case rest =>
  obtain ⟨rfl, rfl, rfl⟩ := hcut
  clear HW1
  -- its own node
  have HNo : Hid (NO (w.heap.size + 1) (wc.alloc (.cells #[.int .i64 kI, .string ⟨#[]⟩, .string ⟨#[]⟩, .bool false, .int .i64 0, .int .i64 0] 38)) (.slice (some ⟨wc.heap.size, 0, none⟩) 1 1) [hdN ob 0]) := by
    have h := no_one wc (hdN ob 0) (w.heap.size + 1) (by rw [HSz.out]; exact Nat.le_refl _)
    rw [← HK.out]
    exact h
  have HRI : Hid (RI w (wc.alloc (.cells #[.int .i64 kI, .string ⟨#[]⟩, .string ⟨#[]⟩, .bool false, .int .i64 0, .int .i64 0] 38)) (.slice (some ⟨wc.heap.size, 0, none⟩) 1 1) (.slice none 0 0) [hdN ob 0] []) := ⟨HB.out.trans ((alloc_below _ _).mono HB.out.size), by rw [alloc_size, HSz.out]; omega, bl_below HBox.out (alloc_below _ _), HNo.out, World.ownsRow_nil _ _ _ _⟩
  obtain ⟨z, hz⟩ : ∃ z, skp t blanksS (p0 + 1) = z := ⟨_, rfl⟩
  have hzl : z ≤ t.length := by rw [← hz]; exact skp_le _ _ _ hp0
  obtain ⟨w2, hw2⟩ : ∃ w2, (wc.alloc (.cells #[.int .i64 kI, .string ⟨#[]⟩, .string ⟨#[]⟩, .bool false, .int .i64 0, .int .i64 0] 38)) = w2 := ⟨_, rfl⟩
  have HW2 : Hid ((wc.alloc (.cells #[.int .i64 kI, .string ⟨#[]⟩, .string ⟨#[]⟩, .bool false, .int .i64 0, .int .i64 0] 38)) = w2) := hw2
  rw [hw2] at HRI
  have C1 : Calls Tryz.prog 18 #[.string ⟨t.toArray⟩, .int .i64 ((p0 : Int) + 1)] w2 fun e w' => e = .returned (.int .i64 z) ∧ w' = w2 := by
    have h := skip_any t (p0 + 1) w2 hp0 (by omega)
    rw [hz] at h
    exact h
  have C2 := byteAt_any t z w2 (by omega)
  obtain ⟨b, hb⟩ : ∃ b, bat t z = b := ⟨_, rfl⟩
  have HD : Hid ((if b = cl then Lx.ok [hdN ob 0] (z + 1) else rowL V t ob (t.length + 1) [] 0 [] z) = R) := by show _ = _; rw [← HR.out]; unfold rowD; rw [hz, hb, HC.out]
  rw [hb] at C2
  clear hw2 HNo HBox HB HR hb hz HK
  go_wp2_with fail
  rw [HW2.out]
  refine C1.mono ?_
  clear C1 HW2
  rintro e w3 ⟨rfl, rfl⟩
  go_wp2_with fail
  refine C2.mono ?_
  clear C2
  rintro e w2 ⟨rfl, rfl⟩
  by_cases hbc : b = cl
  · have q0 : (b == cl) = true := by simpa using hbc
    have HQ : Hid (R = .ok [hdN ob 0] (z + 1)) := by show _ = _; rw [← HD.out, if_pos hbc]
    have HBoxE : Hid (Bl 50 w2 w.heap.size (gotC 0 nilV [] 0 0)) := HRI.out.box
    have HBE : Hid (Below w.heap.size w w2) := HRI.out.bel
    have HNoE : Hid (NO (w.heap.size + 1) w2 (.slice (some ⟨wc.heap.size, 0, none⟩) 1 1) [hdN ob 0]) := HRI.out.no
    clear HD hbc hgi
    obtain ⟨wz, hwz⟩ : ∃ wz, w2.setRow w.heap.size (gotC ((z : Int) + 1) (.slice (some ⟨wc.heap.size, 0, none⟩) 1 1) [] 0 0).toArray = wz := ⟨_, rfl⟩
    have HBz : Hid (Bl 50 wz w.heap.size (gotC ((z : Int) + 1) (.slice (some ⟨wc.heap.size, 0, none⟩) 1 1) [] 0 0)) := by rw [← hwz]; exact set_bl HBoxE.out
    have Hz : Hid (Below w.heap.size w wz) := by rw [← hwz]; exact setRow_below _ HBE.out (Nat.le_refl _)
    have HWz : Hid (w2.setRow w.heap.size (gotC ((z : Int) + 1) (.slice (some ⟨wc.heap.size, 0, none⟩) 1 1) [] 0 0).toArray = wz) := hwz
    have HNz : Hid (NO w.heap.size wz (.slice (some ⟨wc.heap.size, 0, none⟩) 1 1) [hdN ob 0]) := by rw [← hwz]; exact World.ownsRow.mono (own_keep HNoE.out (fun k hk => setRow_other _ _ _ _ (by have := World.ownsRow.lt HNoE.out k hk; omega))) (Nat.le_succ _)
    have hgi : (Tryz.prog.info? 50).map (·.size) = some 5 := by kernel_rfl
    clear hwz
    go_wp2_with (refine wpList_store_row rfl 50 (.tmp 8) (.tmp 30) rfl w.heap.size (gotC ((z : Int) + 1) (.slice (some ⟨wc.heap.size, 0, none⟩) 1 1) [] 0 0).toArray rfl rfl 50 (gotC 0 nilV [] 0 0).toArray HBoxE.out hgi rfl (by simp [gotC, Value.oneCell']) ?_; rw [HWz.out]; clear HWz hgi)
    (try simp only [Exit.inBlock, Exit.then])
    exact bodyPost_ret (v := gotV ((z : Int) + 1) (.slice (some ⟨wc.heap.size, 0, none⟩) 1 1) [] 0 0) (results_got rfl _ _ w.heap.size ((z : Int) + 1) (.slice (some ⟨wc.heap.size, 0, none⟩) 1 1) [] 0 0 rfl HBz.out) rfl ⟨⟨_, rfl, by rw [HQ.out]; exact ⟨_, _, rfl, HNz.out⟩⟩, Hz.out⟩
  · have q0 : (b == cl) = false := by simpa using hbc
    have HL0 : Hid (rowL V t ob (t.length + 1) [] 0 [] z = R) := by show _ = _; rw [← HD.out, if_neg hbc]
    clear HD
    have HN0 : Hid (w.heap.size + 1 ≤ w2.heap.size) := HRI.out.lt
    clear hbc HSz
    go_wp2
    go_loopw [1, 11, 12] (fun s1 s11 s12 wx => ∃ (p k n : Nat) (ns nl : List (List UInt8)) (rest : List Nd), s1 = .int .i64 p ∧ p ≤ t.length ∧ t.length < n + p ∧ k ≤ p ∧ rest.length ≤ p ∧ nl.length ≤ p ∧ ns.length ≤ p ∧ Hid (RI w wx s11 s12 (hdN ob k :: rest) nl) ∧ Hid (ob = true → nl = ns) ∧ Hid (rowL V t ob n ns k rest p = R)) (fun s _ _ _ => t.length + 1 - (intOf s).toNat)
    case atStart => exact ⟨z, 0, t.length + 1, [], [], [], rfl, hzl, by omega, Nat.zero_le _, Nat.zero_le _, Nat.zero_le _, Nat.zero_le _, HRI, fun _ => rfl, HL0⟩
    case round =>
      clear HRI HL0 hzl hp0 HN0
      obtain ⟨p, k, n, ns, nl, rest, rfl, hp, hn, hk, hrs, hnl, hns, HRr, HNl, HK⟩ := hrel
      obtain ⟨n, rfl⟩ : ∃ n', n = n' + 1 := ⟨n - 1, by omega⟩
      obtain ⟨gl, cpl, hul, hgl1, hgl2⟩ := World.ownsRow.form HRr.out.no (by simp)
      subst hul
      obtain ⟨ml, hml⟩ : ∃ ml, (hdN ob k :: rest).length = ml := ⟨_, rfl⟩
      have hmr1 : ml ≤ rest.length + 1 := by rw [← hml]; exact Nat.le_refl _
      have hmr2 : rest.length + 1 ≤ ml := by rw [← hml]; exact Nat.le_refl _
      rw [hml] at HRr ⊢
      obtain ⟨Y, hY⟩ : ∃ Y, itD V t ob ns p = Y := ⟨_, rfl⟩
      have C1 := HIt.out p u12 ns wr hp (fun e => by rw [← HNl.out e]; exact os_sr HRr.out.os) (by omega)
      have HST : Hid (rowN t ob k rest (rowL V t ob n) Y = R) := by show _ = _; rw [← HK.out, ← hY]; rfl
      have HYo : Hid (∀ y q, Y = .ok y q → p < q ∧ q ≤ t.length ∧ 0 < y.2.length ∧ y.2.length ≤ q - p) := fun y q e => it_ok HV.out (hY.trans e)
      have HYb : Hid (∀ c b, Y = .bad c b → c ≠ 0) := fun c b e => it_bad HV.out hp (hY.trans e)
      rw [hY] at C1
      have HML : Hid ((hdN ob k :: rest).length = ml) := hml
      have Hgl : Hid (w.heap.size + 1 ≤ gl ∧ gl < wr.heap.size) := ⟨hgl1, hgl2⟩
      have HU2 : Hid (∀ g, u12.ownBlock = some g → w.heap.size + 1 ≤ g ∧ g < wr.heap.size) := fun g hg => World.ownsRow.lt HRr.out.os g hg
      clear hY HK hml hgl1 hgl2
      go_wp2_with fail
      refine C1.mono ?_
      clear C1
      rintro e w3 ⟨⟨v, rfl, hv⟩, hB3⟩
      have HR3 : Hid (RI w w3 (.slice (some ⟨gl, 0, none⟩) ml cpl) u12 (hdN ob k :: rest) nl) := HRr.out.below hB3
      have HS3 : Hid (wr.heap.size ≤ w3.heap.size) := hB3.size
      clear hB3 HRr
      cases Y with
      | bad c b =>
        obtain ⟨A, S', hv1⟩ := hv
        have hv2 : v = .agg #[.int .i64 A, .slice none 0 0, .string ⟨S'.toArray⟩, .int .i64 (c : Int), .int .i64 (b : Int)] := hv1
        clear hv1
        subst hv2
        have qc : ((c : Int) != 0) = true := by have := HYb.out c b rfl; simp; omega
        have HQ : Hid (R = .bad c b) := HST.out.symm
        have HG : Hid (Bl 50 (w3.alloc (.cells #[.int .i64 A, .slice none 0 0, .string ⟨S'.toArray⟩, .int .i64 (c : Int), .int .i64 (b : Int)] 50)) w3.heap.size (gotC A nilV S' (c : Int) (b : Int))) := alloc_bl _ _ _
        have HBoxA : Hid (Bl 50 (w3.alloc (.cells #[.int .i64 A, .slice none 0 0, .string ⟨S'.toArray⟩, .int .i64 (c : Int), .int .i64 (b : Int)] 50)) w.heap.size (gotC 0 nilV [] 0 0)) := bl_below HR3.out.box (alloc_below _ _)
        have HBA : Hid (Below w.heap.size w (w3.alloc (.cells #[.int .i64 A, .slice none 0 0, .string ⟨S'.toArray⟩, .int .i64 (c : Int), .int .i64 (b : Int)] 50))) := HR3.out.bel.trans ((alloc_below _ _).mono HR3.out.bel.size)
        obtain ⟨w4, hw4⟩ : ∃ w4, (w3.alloc (.cells #[.int .i64 A, .slice none 0 0, .string ⟨S'.toArray⟩, .int .i64 (c : Int), .int .i64 (b : Int)] 50)) = w4 := ⟨_, rfl⟩
        have HW4 : Hid ((w3.alloc (.cells #[.int .i64 A, .slice none 0 0, .string ⟨S'.toArray⟩, .int .i64 (c : Int), .int .i64 (b : Int)] 50)) = w4) := hw4
        rw [hw4] at HG HBoxA HBA
        clear hw4 HYo HYb HST HIt
        go_upto_region 10 with fail
        rw [HW4.out]
        clear HW4
        have k3 : w4.cell? ⟨w3.heap.size, 3, none⟩ = some (.int .i64 (c : Int)) := HG.out.cell 3 (by show 3 < 5; decide)
        have HRg : Hid (w4.rangeAt w3.heap.size 0 (gotC A nilV S' (c : Int) (b : Int))) := bl_range HG.out
        obtain ⟨wz, hwz⟩ : ∃ wz, w4.setRow w.heap.size (gotC A nilV S' (c : Int) (b : Int)).toArray = wz := ⟨_, rfl⟩
        have HBz : Hid (Bl 50 wz w.heap.size (gotC A nilV S' (c : Int) (b : Int))) := by rw [← hwz]; exact set_bl HBoxA.out
        have Hz : Hid (Below w.heap.size w wz) := by rw [← hwz]; exact setRow_below _ HBA.out (Nat.le_refl _)
        have HWz : Hid (w4.setRow w.heap.size (gotC A nilV S' (c : Int) (b : Int)).toArray = wz) := hwz
        clear hwz
        go_wp2_with (first | (refine wpList_load_mid rfl 50 (.tmp 13) rfl w3.heap.size 0 rfl (gotC A nilV S' (c : Int) (b : Int)) _ HRg.out Tryz.underlying50 rfl hgi ?_) | (refine wpList_store_row rfl 50 (.tmp 8) (.tmp 40) rfl w.heap.size (gotC A nilV S' (c : Int) (b : Int)).toArray rfl rfl 50 (gotC 0 nilV [] 0 0).toArray HBoxA.out hgi rfl (by simp [gotC, nilV, Value.oneCell']) ?_; rw [HWz.out]; clear HWz))
        (try simp only [Exit.inBlock, Exit.then])
        exact bodyPost_ret (v := gotV A nilV S' (c : Int) (b : Int)) (results_got rfl _ _ w.heap.size A nilV S' (c : Int) (b : Int) rfl HBz.out) rfl ⟨⟨_, rfl, by rw [HQ.out]; exact ⟨_, _, rfl⟩⟩, Hz.out⟩
      | ok y q =>
        obtain ⟨lv, S, hv1, hno, hy1, hy2⟩ := hv
        have hyo := HYo.out y q rfl
        obtain ⟨g, cap, hlv, hg1, hg2⟩ := World.ownsRow.form hno hyo.2.2.1
        subst hlv
        obtain ⟨m, hm⟩ : ∃ m, y.2.length = m := ⟨_, rfl⟩
        rw [hm] at hv1
        have hv2 : v = .agg #[.int .i64 (q : Int), .slice (some ⟨g, 0, none⟩) m cap, .string ⟨S.toArray⟩, .int .i64 0, .int .i64 0] := hv1
        clear hv1
        subst hv2
        have HM : Hid (y.2.length = m) := hm
        have HNy : Hid (NO wr.heap.size w3 (.slice (some ⟨g, 0, none⟩) m cap) y.2) := by have h := hno; rw [hm] at h; exact h
        have Hg : Hid (wr.heap.size ≤ g ∧ g < w3.heap.size) := ⟨hg1, hg2⟩
        have Hy1 : Hid (ob = true → nl ++ [S] = y.1) := fun e => by rw [hy1 e, HNl.out e]
        have hyn := it_names hy1 hy2
        rw [hm] at hyo
        have HG : Hid (Bl 50 (w3.alloc (.cells #[.int .i64 (q : Int), .slice (some ⟨g, 0, none⟩) m cap, .string ⟨S.toArray⟩, .int .i64 0, .int .i64 0] 50)) w3.heap.size (gotC (q : Int) (.slice (some ⟨g, 0, none⟩) m cap) S 0 0)) := alloc_bl _ _ _
        have HR4 : Hid (RI w (w3.alloc (.cells #[.int .i64 (q : Int), .slice (some ⟨g, 0, none⟩) m cap, .string ⟨S.toArray⟩, .int .i64 0, .int .i64 0] 50)) (.slice (some ⟨gl, 0, none⟩) ml cpl) u12 (hdN ob k :: rest) nl) := HR3.out.below (alloc_below _ _)
        have HNy4 : Hid (NO wr.heap.size (w3.alloc (.cells #[.int .i64 (q : Int), .slice (some ⟨g, 0, none⟩) m cap, .string ⟨S.toArray⟩, .int .i64 0, .int .i64 0] 50)) (.slice (some ⟨g, 0, none⟩) m cap) y.2) := World.ownsRow.alloc HNy.out _
        have HS4 : Hid (w3.heap.size < (w3.alloc (.cells #[.int .i64 (q : Int), .slice (some ⟨g, 0, none⟩) m cap, .string ⟨S.toArray⟩, .int .i64 0, .int .i64 0] 50)).heap.size) := by show _ < _; rw [alloc_size]; omega
        obtain ⟨w4, hw4⟩ : ∃ w4, (w3.alloc (.cells #[.int .i64 (q : Int), .slice (some ⟨g, 0, none⟩) m cap, .string ⟨S.toArray⟩, .int .i64 0, .int .i64 0] 50)) = w4 := ⟨_, rfl⟩
        have HW4 : Hid ((w3.alloc (.cells #[.int .i64 (q : Int), .slice (some ⟨g, 0, none⟩) m cap, .string ⟨S.toArray⟩, .int .i64 0, .int .i64 0] 50)) = w4) := hw4
        rw [hw4] at HG HR4 HNy4 HS4
        clear hw4 HYo HYb hno hy1 hy2 hm hg1 hg2 HNy HR3 HNl
        go_upto_region 10 with fail
        rw [HW4.out]
        clear HW4
        have k2 : w4.cell? ⟨w3.heap.size, 2, none⟩ = some (.string ⟨S.toArray⟩) := HG.out.cell 2 (by show 2 < 5; decide)
        have k3 : w4.cell? ⟨w3.heap.size, 3, none⟩ = some (.int .i64 0) := HG.out.cell 3 (by show 3 < 5; decide)
        go_upto_region 13 with (at_builtin; refine append_s (wr := w4) rfl (.tmp 41) (.tmp 44) rfl (w.heap.size + 1) _ nl S rfl HR4.out.os w4.heap.size rfl rfl (by omega) HR4.out.lt ?_; intro g5 c5 w5 h5 h6 h7; have HR5 : Hid (RI w w5 (.slice (some ⟨gl, 0, none⟩) ml cpl) (.slice (some ⟨g5, 0, none⟩) (nl.length + 1) c5) (hdN ob k :: rest) (nl ++ [S])) := (HR4.out.below (alloc_below _ _)).name h6 h5; have HG5 : Hid (Bl 50 w5 w3.heap.size (gotC (q : Int) (.slice (some ⟨g, 0, none⟩) m cap) S 0 0)) := bl_grown (bl_below HG.out (alloc_below _ _)) h6 (fun e => by have h8 := HU2.out _ e; have h9 := HS3.out; omega); have HNy5 : Hid (NO wr.heap.size w5 (.slice (some ⟨g, 0, none⟩) m cap) y.2) := World.ownsRow.kept (World.ownsRow.alloc HNy4.out _) h6 (.inr (fun e => by have h8 := HU2.out g e.symm; have h9 := Hg.out; omega)); have HS5 : Hid (w3.heap.size < w5.heap.size) := (by have h8 := HS4.out; have h9 := h6.size; rw [alloc_size] at h9; show _ < _; omega); clear h5 h6 h7)
        have k1 : w5.cell? ⟨w3.heap.size, 1, none⟩ = some (.slice (some ⟨g, 0, none⟩) m cap) := HG5.out.cell 1 (by show 1 < 5; decide)
        have Hx5 : Hid ((.slice (some ⟨g, 0, none⟩) m cap : Value) = .slice (some ⟨g, 0, none⟩) y.2.length cap) := by show _ = _; rw [HM.out]
        have Hl5 : Hid (NO (w.heap.size + 1) w5 (.slice (some ⟨gl, 0, none⟩) ml cpl) (hdN ob k :: rest)) := HR5.out.no
        have HNyy : Hid (NO wr.heap.size w5 (.slice (some ⟨g, 0, none⟩) y.2.length cap) y.2) := by rw [HM.out]; exact HNy5.out
        clear HR4 HG HNy4 HS4 k2 k3
        go_upto_region 14 with (at_builtin; refine append_ns (wr := w5) rfl (.tmp 46) (.tmp 48) rfl (w.heap.size + 1) wr.heap.size (.slice (some ⟨gl, 0, none⟩) ml cpl) (hdN ob k :: rest) y.2 g cap rfl Hl5.out HNyy.out Hx5.out (by rw [HM.out]; omega) (by rw [HM.out, HML.out]; omega) HR5.out.lt ?_; intro g6 c6 w6 h5 h6 h7; rw [HM.out, HML.out] at h5 ⊢; have HR6 : Hid (RI w w6 (.slice (some ⟨g6, 0, none⟩) (ml + m) c6) (.slice (some ⟨g5, 0, none⟩) (nl.length + 1) c5) (hdN ob k :: (rest ++ y.2)) (nl ++ [S])) := HR5.out.nodes h6 h5; have HG6 : Hid (Bl 50 w6 w3.heap.size (gotC (q : Int) (.slice (some ⟨g, 0, none⟩) m cap) S 0 0)) := bl_grown HG5.out h6 (fun e => by have e2 : gl = w3.heap.size := Option.some.inj e; have h8 := Hgl.out; have h9 := HS3.out; omega); have Hne : Hid (g6 ≠ w3.heap.size) := (by show _ ≠ _; have h8 := HS5.out; have h9 := Hgl.out; have h10 := HS3.out; exact h7.elim (fun h => by have e2 : gl = g6 := Option.some.inj h; omega) (fun h => by omega)); clear h5 h6 h7)
        clear HR5 HG5 HNy5 HNyy Hl5 Hx5 k1
        obtain ⟨mm, hmm⟩ : ∃ mm, ml + m = mm := ⟨_, rfl⟩
        rw [hmm] at HR6 ⊢
        have hmm1 : 0 < mm := by omega
        clear hmm
        have k5 := HR6.out.k5
        have k51 := k5.1
        have k52 := k5.2
        have hml0 : decide ((0 : Int) < (mm : Int)) = true := decide_eq_true (by omega)
        have hml1 : 0 < mm := by omega
        have HR7 : Hid (RI w (w6.setCell ⟨g6, 5, none⟩ (.int .i64 ((k : Int) + 1))) (.slice (some ⟨g6, 0, none⟩) mm c6) (.slice (some ⟨g5, 0, none⟩) (nl.length + 1) c5) (hdN ob (k + 1) :: (rest ++ y.2)) (nl ++ [S])) := HR6.out.kid
        have HG7 : Hid (Bl 50 (w6.setCell ⟨g6, 5, none⟩ (.int .i64 ((k : Int) + 1))) w3.heap.size (gotC (q : Int) (.slice (some ⟨g, 0, none⟩) m cap) S 0 0)) := bl_other HG6.out (fun e => Hne.out e.symm)
        obtain ⟨w7, hw7⟩ : ∃ w7, w6.setCell ⟨g6, 5, none⟩ (.int .i64 ((k : Int) + 1)) = w7 := ⟨_, rfl⟩
        have HW7 : Hid (w6.setCell ⟨g6, 5, none⟩ (.int .i64 ((k : Int) + 1)) = w7) := hw7
        rw [hw7] at HR7 HG7
        clear hw7 k5
        go_upto_region 15 with fail
        rw [HW7.out]
        clear HW7 HR6 HG6 k51 k52
        have k0 : w7.cell? ⟨w3.heap.size, 0, none⟩ = some (.int .i64 (q : Int)) := HG7.out.cell 0 (by show 0 < 5; decide)
        obtain ⟨z2, hz2⟩ : ∃ z2, skp t blanksS q = z2 := ⟨_, rfl⟩
        have hz2l : z2 ≤ t.length := by rw [← hz2]; exact skp_le _ _ _ hyo.2.1
        have hz2g : q ≤ z2 := by rw [← hz2]; exact skp_ge _ _ _
        have C2 := skip_any t q w7 hyo.2.1 (by omega)
        rw [hz2] at C2
        have C3 := byteAt_any t z2 w7 (by omega)
        obtain ⟨c0, hc0⟩ : ∃ c0, bat t z2 = c0 := ⟨_, rfl⟩
        have HLT : Hid (0 ≤ c0 → z2 < t.length) := fun h => bat_lt (by rw [hc0]; exact h)
        have HST2 : Hid ((if c0 = cl then Lx.ok (hdN ob (k + 1) :: (rest ++ y.2)) (z2 + 1) else if c0 = 44 then rowL V t ob n y.1 (k + 1) (rest ++ y.2) (skp t blanksS (z2 + 1)) else .bad 31 z2) = R) := by
          show _ = _
          rw [← HST.out]
          unfold rowN
          simp only
          rw [hz2, hc0, HC.out]
        rw [hc0] at C3
        clear HST hz2 hc0 HIt HG7
        go_wp2_with fail
        refine C2.mono ?_
        clear C2 k0
        rintro e w8 ⟨rfl, rfl⟩
        go_wp2_with fail
        refine C3.mono ?_
        clear C3
        rintro e w7 ⟨rfl, rfl⟩
        by_cases hcl2 : c0 = cl
        · have q1 : (c0 == cl) = true := by simpa using hcl2
          have HQ : Hid (R = .ok (hdN ob (k + 1) :: (rest ++ y.2)) (z2 + 1)) := by show _ = _; rw [← HST2.out, if_pos hcl2]
          have HBoxE : Hid (Bl 50 w7 w.heap.size (gotC 0 nilV [] 0 0)) := HR7.out.box
          have HBE : Hid (Below w.heap.size w w7) := HR7.out.bel
          have HNoE : Hid (NO (w.heap.size + 1) w7 (.slice (some ⟨g6, 0, none⟩) mm c6) (hdN ob (k + 1) :: (rest ++ y.2))) := HR7.out.no
          clear HST2 hcl2 hgi HR7
          obtain ⟨wz, hwz⟩ : ∃ wz, w7.setRow w.heap.size (gotC ((z2 : Int) + 1) (.slice (some ⟨g6, 0, none⟩) mm c6) [] 0 0).toArray = wz := ⟨_, rfl⟩
          have HBz : Hid (Bl 50 wz w.heap.size (gotC ((z2 : Int) + 1) (.slice (some ⟨g6, 0, none⟩) mm c6) [] 0 0)) := by rw [← hwz]; exact set_bl HBoxE.out
          have Hz : Hid (Below w.heap.size w wz) := by rw [← hwz]; exact setRow_below _ HBE.out (Nat.le_refl _)
          have HWz : Hid (w7.setRow w.heap.size (gotC ((z2 : Int) + 1) (.slice (some ⟨g6, 0, none⟩) mm c6) [] 0 0).toArray = wz) := hwz
          have HNz : Hid (NO w.heap.size wz (.slice (some ⟨g6, 0, none⟩) mm c6) (hdN ob (k + 1) :: (rest ++ y.2))) := by rw [← hwz]; exact World.ownsRow.mono (own_keep HNoE.out (fun k hk => setRow_other _ _ _ _ (by have := World.ownsRow.lt HNoE.out k hk; omega))) (Nat.le_succ _)
          have hgi : (Tryz.prog.info? 50).map (·.size) = some 5 := by kernel_rfl
          clear hwz
          go_wp2_with (refine wpList_store_row rfl 50 (.tmp 8) (.tmp 72) rfl w.heap.size (gotC ((z2 : Int) + 1) (.slice (some ⟨g6, 0, none⟩) mm c6) [] 0 0).toArray rfl rfl 50 (gotC 0 nilV [] 0 0).toArray HBoxE.out hgi rfl (by simp [gotC, Value.oneCell']) ?_; rw [HWz.out]; clear HWz hgi)
          (try simp only [Exit.inBlock, Exit.then])
          exact bodyPost_ret (v := gotV ((z2 : Int) + 1) (.slice (some ⟨g6, 0, none⟩) mm c6) [] 0 0) (results_got rfl _ _ w.heap.size ((z2 : Int) + 1) (.slice (some ⟨g6, 0, none⟩) mm c6) [] 0 0 rfl HBz.out) rfl ⟨⟨_, rfl, by rw [HQ.out]; exact ⟨_, _, rfl, HNz.out⟩⟩, Hz.out⟩
        · have q1 : (c0 == cl) = false := by simpa using hcl2
          by_cases h44 : c0 = 44
          · have hlt := HLT.out (by rw [h44]; decide)
            obtain ⟨p2, hp2⟩ : ∃ p2, skp t blanksS (z2 + 1) = p2 := ⟨_, rfl⟩
            have hp2l : p2 ≤ t.length := by rw [← hp2]; exact skp_le _ _ _ hlt
            have hp2g : z2 + 1 ≤ p2 := by rw [← hp2]; exact skp_ge _ _ _
            have HK2 : Hid (rowL V t ob n y.1 (k + 1) (rest ++ y.2) p2 = R) := by show _ = _; rw [← HST2.out, if_neg hcl2, if_pos h44, hp2]
            have q2 : (c0 == 44) = true := by simpa using h44
            have C4 : Calls Tryz.prog 18 #[.string ⟨t.toArray⟩, .int .i64 ((z2 : Int) + 1)] w7 fun e w' => e = .returned (.int .i64 p2) ∧ w' = w7 := by
              have h := skip_any t (z2 + 1) w7 hlt (by omega)
              rw [hp2] at h
              exact h
            have hn1 : (rest ++ y.2).length ≤ p2 := by rw [List.length_append, HM.out]; omega
            have hn2 : (nl ++ [S]).length ≤ p2 := by rw [List.length_append, List.length_singleton]; omega
            clear HST2 hcl2 h44 hp2
            go_wp2_with fail
            refine C4.mono ?_
            clear C4
            rintro e w8 ⟨rfl, rfl⟩
            go_wp2
            go_roundw
            case rel => exact ⟨p2, k + 1, n, y.1, nl ++ [S], rest ++ y.2, rfl, hp2l, by omega, by omega, hn1, hn2, by omega, HR7, Hy1, HK2⟩
            case measure => simp [intOf]; omega
          · have HQ : Hid (R = .bad 31 z2) := by show _ = _; rw [← HST2.out, if_neg hcl2, if_neg h44]
            have q2 : (c0 == 44) = false := by simpa using h44
            have HBoxE : Hid (Bl 50 w7 w.heap.size (gotC 0 nilV [] 0 0)) := HR7.out.box
            have HBE : Hid (Below w.heap.size w w7) := HR7.out.bel
            have C5 := fault_any 31 (z2 : Int) w7
            clear HST2 hcl2 h44 HR7 hgi
            go_wp2_with fail
            refine C5.mono ?_
            clear C5
            rintro e w9 ⟨rfl, hB9⟩
            have HBox9 : Hid (Bl 50 w9 w.heap.size (gotC 0 nilV [] 0 0)) := bl_below HBoxE.out hB9
            have HB9 : Hid (Below w.heap.size w w9) := HBE.out.trans (hB9.mono HBE.out.size)
            clear hB9 HBoxE HBE
            obtain ⟨wz, hwz⟩ : ∃ wz, w9.setRow w.heap.size (gotC 0 nilV [] 31 (z2 : Int)).toArray = wz := ⟨_, rfl⟩
            have HBz : Hid (Bl 50 wz w.heap.size (gotC 0 nilV [] 31 (z2 : Int))) := by rw [← hwz]; exact set_bl HBox9.out
            have Hz : Hid (Below w.heap.size w wz) := by rw [← hwz]; exact setRow_below _ HB9.out (Nat.le_refl _)
            have HWz : Hid (w9.setRow w.heap.size (gotC 0 nilV [] 31 (z2 : Int)).toArray = wz) := hwz
            have hgi : (Tryz.prog.info? 50).map (·.size) = some 5 := by kernel_rfl
            clear hwz
            go_wp2_with (refine wpList_store_row rfl 50 (.tmp 8) (.tmp 65) rfl w.heap.size (gotC 0 nilV [] 31 (z2 : Int)).toArray rfl rfl 50 (gotC 0 nilV [] 0 0).toArray HBox9.out hgi rfl (by simp [gotC, nilV, Value.oneCell']) ?_; rw [HWz.out]; clear HWz hgi)
            (try simp only [Exit.inBlock, Exit.then])
            exact bodyPost_ret (v := gotV 0 nilV [] 31 (z2 : Int)) (results_got rfl _ _ w.heap.size 0 nilV [] 31 (z2 : Int) rfl HBz.out) rfl ⟨⟨_, rfl, by rw [HQ.out]; exact ⟨_, _, rfl⟩⟩, Hz.out⟩

end Go.Proofs.YtapljedegjiliaaGreatDoor
