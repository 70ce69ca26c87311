import Derived.Test.YthlfboaidhgnlaaGreatDoorCs
namespace Go.Proofs.YthlfboaidhgnlaaGreatDoor
open Go.RowKit

theorem take_map {v : List Nd} {L : List Nat} {j : Nat} (hj : j < L.length) : (L.take (j + 1)).map (fun i => (v.getD i (nd0 0)).text) = (L.take j).map (fun i => (v.getD i (nd0 0)).text) ++ [(v.getD (L.getD j 0) (nd0 0)).text] := by
  rw [List.take_add_one, List.getElem?_eq_getElem hj, List.map_append]
  simp [List.getD_eq_getElem?_getD, hj]
theorem one_txt (w : World) (x : List UInt8) : TR (w.alloc (.cells #[.string ⟨x.toArray⟩] 9)) (.slice (some ⟨w.heap.size, 0, none⟩) 1 1) [x] (some ⟨w.heap.size, 0, none⟩) 1 := by
  have hbl : Bl 9 (w.alloc (.cells #[.string ⟨x.toArray⟩] 9)) w.heap.size [.string ⟨x.toArray⟩] := alloc_bl _ _ _
  refine ⟨rfl, Nat.le_refl _, .inr ⟨w.heap.size, 0, rfl, hbl.lt, fun j hj => ?_⟩⟩
  have h0 : j = 0 := by simp at hj; omega
  subst h0
  exact hbl.cell 0 (by simp)
theorem own_mono {w : World} {b0 b1 n size : Nat} {e : TypeId} {v : Value} {xs : List Value} (h : w.ownsRow b1 e size v n xs) (hb : b0 ≤ b1) : w.ownsRow b0 e size v n xs :=
  ⟨h.1, h.2.elim .inl fun ⟨g, cap, cur, e, hg, r⟩ => .inr ⟨g, cap, cur, e, Nat.le_trans hb hg, r⟩⟩
theorem OT.below {B : Nat} {w w' : World} {v : Value} {l : List (List UInt8)} (h : OT B w v l) (hb : Below w.heap.size w w') : OT B w' v l := own_below h hb (Nat.le_refl _)

set_option maxRecDepth 100000 in
set_option maxHeartbeats 8000000 in
theorem texts_any (l : List Nd) (ao : Option Addr) (cap : Nat) (k : List UInt8) (w : World) (h : NR w (.slice ao l.length cap) l ao cap) (hl : l.length ≤ 100000000) :
    Calls Tryz.prog 49 #[.slice ao l.length cap, .string ⟨k.toArray⟩] w fun e w' => (∃ v, e = .returned (.tuple #[v, .bool (tsF l k).2]) ∧ OT w.heap.size w' v (tsF l k).1) ∧ Below w.heap.size w w' := by
  have CM := member_any _ l ao cap 0 k w h (by omega)
  have HN : Hid (NR w (.slice ao l.length cap) l ao cap) := h
  have HI := mem_in l k
  have HF : Hid (tsF l k = if memF l 0 k < 0 then ([], false)
    else if (l.getD (memF l 0 k).toNat (nd0 0)).kind = 5 then ([(l.getD (memF l 0 k).toNat (nd0 0)).text], true)
    else ((kidsF l (memF l 0 k)).map fun i => (l.getD i (nd0 0)).text, true)) := rfl
  have hlt : ∀ i ∈ kidsF l 0, i < l.length := kidsF_lt
  rcases HI with e | ⟨i, hi, e, _⟩
  · rw [e] at HF CM
    have HF2 : Hid (tsF l k = ([], false)) := by show _ = _; rw [HF.out]; exact if_pos (by decide)
    clear h hlt e HF
    go_enter Tryz.func49, Tryz.ntmps49
    go_wp2_with fail
    refine CM.mono ?_
    clear CM
    rintro e w1 ⟨rfl, hB⟩
    have HB : Hid (Below w.heap.size w w1) := hB
    clear hB HN
    go_wp2
    go_ret2
    rw [HF2.out]
    exact ⟨⟨_, rfl, World.ownsRow_nil _ _ _ _⟩, HB.out⟩
  · have hil := hlt i hi
    rw [e] at HF CM
    rw [Int.toNat_natCast] at HF
    have q0 : decide ((i : Int) < 0) = false := decide_eq_false (by omega)
    have HF1 : Hid (tsF l k = if (l.getD i (nd0 0)).kind = 5 then ([(l.getD i (nd0 0)).text], true) else ((kidsF l (i : Int)).map fun i => (l.getD i (nd0 0)).text, true)) := by show _ = _; rw [HF.out]; exact if_neg (by omega)
    clear h hlt e hi HF
    obtain ⟨n, hn⟩ : ∃ n, l.getD i (nd0 0) = n := ⟨_, rfl⟩
    rw [hn] at HF1
    by_cases h5 : n.kind = 5
    · have q5 : (n.kind == 5) = true := by simpa using h5
      have HF2 : Hid (tsF l k = ([n.text], true)) := by show _ = _; rw [HF1.out]; exact if_pos h5
      clear HF1 h5
      go_enter Tryz.func49, Tryz.ntmps49
      go_wp2_with fail
      refine CM.mono ?_
      clear CM
      rintro e w1 ⟨rfl, hB⟩
      have HB : Hid (Below w.heap.size w w1) := hB
      obtain ⟨g, off, rfl, hc2⟩ := (HN.out.below hB (Nat.le_refl _)).at hil
      rw [hn] at hc2
      have ck0 := hc2 0 (.int .i64 n.kind) (by omega) rfl
      have ck2 := hc2 2 (.string ⟨n.text.toArray⟩) (by omega) rfl
      rw [Nat.add_zero] at ck0
      have HO : Hid (OT w.heap.size (w1.alloc (.cells #[.string ⟨n.text.toArray⟩] 9)) (.slice (some ⟨w1.heap.size, 0, none⟩) 1 1) [n.text]) := World.ownsRow_lit w1 #[.string ⟨n.text.toArray⟩] 1 hB.size (by decide) rfl
      have HB2 : Hid (Below w.heap.size w (w1.alloc (.cells #[.string ⟨n.text.toArray⟩] 9))) := hB.trans ((alloc_below _ _).mono hB.size)
      clear hB HN hc2 hn HB
      go_wp2
      go_ret2
      rw [HF2.out]
      exact ⟨⟨_, rfl, HO.out⟩, HB2.out⟩
    · have q5 : (n.kind == 5) = false := by simpa using h5
      have HF2 : Hid (tsF l k = ((kidsF l (i : Int)).map fun i => (l.getD i (nd0 0)).text, true)) := by show _ = _; rw [HF1.out]; exact if_neg h5
      have HKs : Hid (∀ wq, NR wq (.slice ao l.length cap) l ao cap → Calls Tryz.prog 20 #[.slice ao l.length cap, .int .i64 (i : Int)] wq fun e w' => ∃ r, e = .returned r ∧ OI wq.heap.size wq w' r (kidsF l (i : Int))) := fun wq hq => kids_any _ l ao cap i wq hq (by omega)
      have HLT : Hid (∀ x ∈ kidsF l (i : Int), x < l.length) := kidsF_lt
      have hlen : (kidsF l (i : Int)).length ≤ 100000000 := Nat.le_trans kids_len hl
      generalize kidsF l (i : Int) = L at *
      clear HF1 h5
      go_enter Tryz.func49, Tryz.ntmps49
      go_wp2_with fail
      refine CM.mono ?_
      clear CM
      rintro e w1 ⟨rfl, hB⟩
      have HB : Hid (Below w.heap.size w w1) := hB
      have HN1 : Hid (NR w1 (.slice ao l.length cap) l ao cap) := HN.out.below hB (Nat.le_refl _)
      have CK := HKs.out w1 HN1.out
      obtain ⟨g, off, rfl, hc2⟩ := HN1.out.at hil
      rw [hn] at hc2
      have ck0 := hc2 0 (.int .i64 n.kind) (by omega) rfl
      rw [Nat.add_zero] at ck0
      clear hB HN hc2 hn HKs
      go_wp2_with fail
      refine CK.mono ?_
      clear CK ck0
      rintro e w2 ⟨r, rfl, hoi⟩
      obtain ⟨ka, kc, rfl, hkc, hkat⟩ := hoi.at
      have HOI : Hid (OI w1.heap.size w1 w2 (.slice ka L.length kc) L) := hoi
      have HAT : Hid (∀ wx, Below w2.heap.size w2 wx → ∀ j, j < L.length → ∃ g, ka = some ⟨g, 0, none⟩ ∧ wx.cell? ⟨g, j, none⟩ = some (iV (L.getD j 0))) := fun wx hx j hj => by
        obtain ⟨g', e, hc⟩ := hkat j hj
        exact ⟨g', e, cell_but hc fun _ => hx.block g' (World.block_lt_of_cell? _ _ hc)⟩
      have HN2 : Hid (∀ wx, Below w2.heap.size w2 wx → NR wx (.slice (some ⟨g, off, none⟩) l.length cap) l (some ⟨g, off, none⟩) cap) := fun wx hx => (HN1.out.below hoi.bel (Nat.le_refl _)).below hx (Nat.le_refl _)
      have HB2 : Hid (Below w.heap.size w w2) := HB.out.trans (hoi.bel.mono HB.out.size)
      clear hoi hkat HN1 HB HOI
      go_wp2
      go_loopw [31, 7] (fun s31 s7 wx => ∃ (j : Nat), s31 = .int .i64 j ∧ j ≤ L.length ∧ OT w2.heap.size wx s7 ((L.take j).map (fun i => (l.getD i (nd0 0)).text)) ∧ Below w2.heap.size w2 wx) (fun x _ _ => L.length - (intOf x).toNat)
      case atStart => exact ⟨0, rfl, Nat.zero_le _, World.ownsRow_nil _ _ _ _, Below.refl _ _⟩
      case round =>
        obtain ⟨j, rfl, hj, ho, hb⟩ := hrel
        have HO : Hid (OT w2.heap.size wr _ ((L.take j).map (fun i => (l.getD i (nd0 0)).text))) := ho
        have HBr : Hid (Below w2.heap.size w2 wr) := hb
        obtain ⟨va, vc, rfl, _, _⟩ := own_slice ho
        rw [List.length_map, List.length_take_of_le hj] at HO ⊢
        by_cases hjl : j < L.length
        · have q1 : decide ((j : Int) < (L.length : Int)) = true := by simp; omega
          obtain ⟨kg, rfl, ckj⟩ := HAT.out wr hb j hjl
          have hkl : L.getD j 0 < l.length := HLT.out _ (by rw [List.getD_eq_getElem?_getD, List.getElem?_eq_getElem hjl]; exact List.getElem_mem hjl)
          have htm := take_map (v := l) hjl
          obtain ⟨g2, off2, e2, hc3⟩ := (HN2.out wr hb).at hkl
          cases e2
          generalize L.getD j 0 = m at *
          obtain ⟨x, hx⟩ : ∃ n, l.getD m (nd0 0) = n := ⟨_, rfl⟩
          rw [hx] at hc3 htm
          have ck2 := hc3 2 (.string ⟨x.text.toArray⟩) (by omega) rfl
          unfold iV at ckj
          generalize hT : (L.take j).map (fun i => (l.getD i (nd0 0)).text) = T at *
          have hTl : T.length = j := by rw [← hT]; simp; omega
          have HTl : Hid (T.length = j) := hTl
          have HTM : Hid ((L.take (j + 1)).map (fun i => (l.getD i (nd0 0)).text) = T ++ [x.text]) := htm
          have ho1 : OT w2.heap.size (wr.alloc (.cells #[.string ⟨x.text.toArray⟩] 9)) (.slice va j vc) T := World.ownsRow.alloc HO.out _
          have hsz : w2.heap.size ≤ (wr.alloc (.cells #[.string ⟨x.text.toArray⟩] 9)).heap.size := by rw [alloc_size]; have := hb.size; omega
          have hBa : Below w2.heap.size w2 (wr.alloc (.cells #[.string ⟨x.text.toArray⟩] 9)) := hb.trans ((alloc_below _ _).mono hb.size)
          clear ho hb hc3 hx htm hT hTl
          go_wp2_with (at_builtin; refine append_txt (wr := wr.alloc (.cells #[.string ⟨x.text.toArray⟩] 9)) rfl (.tmp 35) (.tmp 41) rfl w2.heap.size (.slice va j vc) T rfl ho1 (some ⟨wr.heap.size, 0, none⟩) 1 [x.text] rfl (one_txt wr x.text) (fun h => by cases h) (by rw [HTl.out]; simp only [List.length_cons, List.length_nil]; omega) hsz ?_; intro v1 w4 ho4 hg4; have HO4 : Hid (OT w2.heap.size w4 v1 (T ++ [x.text])) := ho4; have HB4 : Hid (Below w2.heap.size w2 w4) := hBa.grown hg4 hsz (own_block ho1); clear ho4 hg4 ho1 hBa hsz)
          go_roundw
          case rel => exact ⟨j + 1, by go_num, by omega, by rw [HTM.out]; exact HO4.out, HB4.out⟩
          case measure => simp [intOf]; omega
        · have q1 : decide ((j : Int) < (L.length : Int)) = false := by simp; omega
          have HX : Hid (OT w2.heap.size wr (.slice va j vc) (L.map (fun i => (l.getD i (nd0 0)).text))) := by
            have := HO.out
            rwa [List.take_of_length_le (by omega)] at this
          have HS : Hid (w.heap.size ≤ w2.heap.size) := HB2.out.size
          have HBz : Hid (Below w.heap.size w wr) := HB2.out.trans (hb.mono HB2.out.size)
          clear ho hb HO
          go_wp2
          go_ret2
          rw [HF2.out]
          exact ⟨⟨_, rfl, own_mono HX.out HS.out⟩, HBz.out⟩

end Go.Proofs.YthlfboaidhgnlaaGreatDoor
