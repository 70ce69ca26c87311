import Derived.Test.YtjaopeenkbcjcaaGreatDoorDy
import Derived.Test.YtjaopeenkbcjcaaGreatDoorCZ
namespace Go.Proofs.YtjaopeenkbcjcaaGreatDoor
open Go.RowKit Go.Shelf

/-- What the document makes of a text, a time, of texts of that name. -/
def dtF (v : List Nd) (k : List UInt8) : List UInt8 × Bool := if okT v k = true then txF v k else ([], false)
def dmF (v : List Nd) (k : List UInt8) : Tm := if okM v k = true then moF v k else tm0
def daF (v : List Nd) (k : List UInt8) : List (List UInt8) × Bool := if okA v k = true then tsF v k else ([], false)

set_option maxRecDepth 100000 in
set_option maxHeartbeats 8000000 in
theorem rtext_any (l : List Nd) (ao : Option Addr) (cap : Nat) (k : List UInt8) (w : World) (h : NR w (.slice ao l.length cap) l ao cap) (hl : l.length ≤ 262144) (hA : ∀ i, i < l.length → At l i) (h0 : 0 < l.length) :
    Calls Tryz.prog 44 #[.slice ao l.length cap, .string ⟨k.toArray⟩] w fun e w' => e = .returned (.tuple #[.string ⟨(dtF l k).1.toArray⟩, .bool (dtF l k).2, .bool (okT l k)]) ∧ Below w.heap.size w w' := by
  have CM := rmember_any l ao cap 0 k w h hl hA h0
  rw [Int.natCast_zero] at CM
  have HN : Hid (NR w (.slice ao l.length cap) l ao cap) := h
  have hlt : ∀ i ∈ kidsF l 0, i < l.length := kidsF_lt
  rcases mem_in l k with e | ⟨i, hi, e, _⟩
  · have HO : Hid (okT l k = true) := by show _ = _; unfold okT; rw [e]; rfl
    have HF : Hid (dtF l k = ([], false)) := by show _ = _; unfold dtF; rw [if_pos HO.out]; unfold txF; rw [e]; exact if_pos (by decide)
    rw [e] at CM
    clear h hlt e hA
    go_enter Tryz.func44, Tryz.ntmps44
    go_wp2_with fail
    refine CM.mono ?_
    clear CM
    rintro e w1 ⟨rfl, hB⟩
    have HB : Hid (Below w.heap.size w w1) := hB
    clear hB HN
    go_wp2
    go_ret3
    rw [HF.out, HO.out]
    exact ⟨rfl, HB.out⟩
  · have hil := hlt i hi
    obtain ⟨n, hn⟩ : ∃ n, l.getD i (nd0 0) = n := ⟨_, rfl⟩
    have HO : Hid (okT l k = decide (n.kind = 5)) := by show _ = _; unfold okT; rw [e, Int.toNat_natCast, hn, decide_eq_false (by omega)]; rfl
    have HT : Hid (txF l k = (n.text, true)) := by show _ = _; unfold txF; rw [e, Int.toNat_natCast, hn]; exact if_neg (by omega)
    have q0 : decide ((i : Int) < 0) = false := decide_eq_false (by omega)
    rw [e] at CM
    clear h hlt e hi hA
    go_enter Tryz.func44, Tryz.ntmps44
    go_wp2_with fail
    refine CM.mono ?_
    clear CM
    rintro e w1 ⟨rfl, hB⟩
    have HB : Hid (Below w.heap.size w w1) := hB
    obtain ⟨g, off, rfl, hc2⟩ := (HN.out.below hB (Nat.le_refl _)).at hil
    rw [hn] at hc2
    have ck0 := hc2 0 (.int .i64 n.kind) (by omega) rfl
    have ck2 := hc2 2 (.string ⟨n.text.toArray⟩) (by omega) rfl
    rw [Nat.add_zero] at ck0
    clear hB HN hc2 hn
    by_cases h5 : n.kind = 5
    · have q5 : (n.kind != 5) = false := by simpa using h5
      have HO2 : Hid (okT l k = true) := by show _ = _; rw [HO.out]; exact decide_eq_true h5
      have HF : Hid (dtF l k = (n.text, true)) := by show _ = _; unfold dtF; rw [if_pos HO2.out]; exact HT.out
      clear HO HT h5
      go_wp2
      go_ret3
      rw [HF.out, HO2.out]
      exact ⟨rfl, HB.out⟩
    · have q5 : (n.kind != 5) = true := by simpa using h5
      have HO2 : Hid (okT l k = false) := by show _ = _; rw [HO.out]; exact decide_eq_false h5
      have HF : Hid (dtF l k = ([], false)) := by show _ = _; unfold dtF; rw [if_neg (by rw [HO2.out]; decide)]
      clear HO HT h5
      go_wp2
      go_ret3
      rw [HF.out, HO2.out]
      exact ⟨rfl, HB.out⟩

set_option maxRecDepth 100000 in
set_option maxHeartbeats 8000000 in
theorem rtexts_any (l : List Nd) (ao : Option Addr) (cap : Nat) (k : List UInt8) (w : World) (h : NR w (.slice ao l.length cap) l ao cap) (hl : l.length ≤ 262144) (hA : ∀ i, i < l.length → At l i) (h0 : 0 < l.length) :
    Calls Tryz.prog 45 #[.slice ao l.length cap, .string ⟨k.toArray⟩] w fun e w' => (∃ v, e = .returned (.tuple #[v, .bool (daF l k).2, .bool (okA l k)]) ∧ OT w.heap.size w' v (daF l k).1) ∧ Below w.heap.size w w' := by
  have CM := rmember_any l ao cap 0 k w h hl hA h0
  rw [Int.natCast_zero] at CM
  have HN : Hid (NR w (.slice ao l.length cap) l ao cap) := h
  have hlt : ∀ i ∈ kidsF l 0, i < l.length := kidsF_lt
  rcases mem_in l k with e | ⟨i, hi, e, _⟩
  · have HO : Hid (okA l k = true) := by show _ = _; unfold okA; rw [e]; rfl
    have HF : Hid (daF l k = ([], false)) := by show _ = _; unfold daF; rw [if_pos HO.out]; unfold tsF; rw [e]; exact if_pos (by decide)
    rw [e] at CM
    clear h hlt e hA
    go_enter Tryz.func45, Tryz.ntmps45
    go_wp2_with fail
    refine CM.mono ?_
    clear CM
    rintro e w1 ⟨rfl, hB⟩
    have HB : Hid (Below w.heap.size w w1) := hB
    clear hB HN
    go_wp2
    go_ret3
    rw [HF.out, HO.out]
    exact ⟨⟨_, rfl, World.ownsRow_nil _ _ _ _⟩, HB.out⟩
  · have hil := hlt i hi
    obtain ⟨n, hn⟩ : ∃ n, l.getD i (nd0 0) = n := ⟨_, rfl⟩
    have HO : Hid (okA l k = (decide (n.kind = 5) || (decide (n.kind = 6) && allT l (kidsF l (i : Int))))) := by show _ = _; unfold okA; rw [e, Int.toNat_natCast, hn, decide_eq_false (by omega)]; rfl
    have HT : Hid (tsF l k = if n.kind = 5 then ([n.text], true) else ((kidsF l (i : Int)).map fun i => (l.getD i (nd0 0)).text, true)) := by show _ = _; unfold tsF; rw [e, Int.toNat_natCast, hn]; exact if_neg (by omega)
    have q0 : decide ((i : Int) < 0) = false := decide_eq_false (by omega)
    have HKs : Hid (∀ wq, NR wq (.slice ao l.length cap) l ao cap → Calls Tryz.prog 66 #[.slice ao l.length cap, .int .i64 (i : Int)] wq fun e w' => ∃ r, e = .returned r ∧ OI wq.heap.size wq w' r (kidsF l (i : Int))) := fun wq hq => rkids_any l ao cap i wq hq hl hA hil
    have HLT : Hid (∀ x ∈ kidsF l (i : Int), x < l.length) := kidsF_lt
    have hlen : (kidsF l (i : Int)).length ≤ 100000000 := Nat.le_trans kids_len (by omega)
    generalize kidsF l (i : Int) = L at *
    rw [e] at CM
    clear h hlt e hi hA
    go_enter Tryz.func45, Tryz.ntmps45
    go_wp2_with fail
    refine CM.mono ?_
    clear CM
    rintro e w1 ⟨rfl, hB⟩
    have HB : Hid (Below w.heap.size w w1) := hB
    have HN1 : Hid (NR w1 (.slice ao l.length cap) l ao cap) := HN.out.below hB (Nat.le_refl _)
    have CK := HKs.out w1 HN1.out
    obtain ⟨g, off, rfl, hc2⟩ := HN1.out.at hil
    rw [hn] at hc2
    have ck0 := hc2 0 (.int .i64 n.kind) (by omega) rfl
    have ck2 := hc2 2 (.string ⟨n.text.toArray⟩) (by omega) rfl
    rw [Nat.add_zero] at ck0
    clear HN hc2 hn HKs
    by_cases h5 : n.kind = 5
    · have q5 : (n.kind == 5) = true := by simpa using h5
      have HO2 : Hid (okA l k = true) := by show _ = _; rw [HO.out, decide_eq_true h5]; rfl
      have HF : Hid (daF l k = ([n.text], true)) := by show _ = _; unfold daF; rw [if_pos HO2.out, HT.out]; exact if_pos h5
      have HOT : Hid (OT w.heap.size (w1.alloc (.cells #[.string ⟨n.text.toArray⟩] 9)) (.slice (some ⟨w1.heap.size, 0, none⟩) 1 1) [n.text]) := World.ownsRow_lit w1 #[.string ⟨n.text.toArray⟩] 1 hB.size (by decide) rfl
      have HB2 : Hid (Below w.heap.size w (w1.alloc (.cells #[.string ⟨n.text.toArray⟩] 9))) := hB.trans ((alloc_below _ _).mono hB.size)
      clear HO HT h5 hB CK HN1 HB
      go_wp2
      go_ret3
      rw [HF.out, HO2.out]
      exact ⟨⟨_, rfl, HOT.out⟩, HB2.out⟩
    · have q5 : (n.kind == 5) = false := by simpa using h5
      by_cases h6 : n.kind = 6
      · have q6 : (n.kind != 6) = false := by simpa using h6
        have HO2 : Hid (okA l k = allT l L) := by show _ = _; rw [HO.out, decide_eq_false h5, decide_eq_true h6]; rfl
        have HF : Hid (daF l k = if allT l L = true then (L.map fun i => (l.getD i (nd0 0)).text, true) else ([], false)) := by show _ = _; unfold daF; rw [HO2.out, HT.out, if_neg h5]
        clear HO HT h5 h6 hB
        go_wp2_with fail
        refine CK.mono ?_
        clear CK ck0 ck2
        rintro e w2 ⟨r, rfl, hoi⟩
        obtain ⟨ka, kc, rfl, hkc, hkat⟩ := hoi.at
        have HAT : Hid (∀ wx, Below w2.heap.size w2 wx → ∀ j, j < L.length → ∃ g, ka = some ⟨g, 0, none⟩ ∧ wx.cell? ⟨g, j, none⟩ = some (iV (L.getD j 0))) := fun wx hx j hj => by
          obtain ⟨g', e, hc⟩ := hkat j hj
          exact ⟨g', e, cell_but hc fun _ => hx.block g' (World.block_lt_of_cell? _ _ hc)⟩
        have HN2 : Hid (∀ wx, Below w2.heap.size w2 wx → NR wx (.slice (some ⟨g, off, none⟩) l.length cap) l (some ⟨g, off, none⟩) cap) := fun wx hx => (HN1.out.below hoi.bel (Nat.le_refl _)).below hx (Nat.le_refl _)
        have HB2 : Hid (Below w.heap.size w w2) := HB.out.trans (hoi.bel.mono HB.out.size)
        clear hoi hkat HN1 HB
        go_wp2
        go_loopw [10, 8] (fun s31 s7 wx => ∃ (j : Nat), s31 = .int .i64 j ∧ j ≤ L.length ∧ OT w2.heap.size wx s7 ((L.take j).map (fun i => (l.getD i (nd0 0)).text)) ∧ Below w2.heap.size w2 wx ∧ allT l (L.drop j) = allT l L) (fun x _ _ => L.length - (intOf x).toNat)
        case atStart => exact ⟨0, rfl, Nat.zero_le _, World.ownsRow_nil _ _ _ _, Below.refl _ _, rfl⟩
        case round =>
          obtain ⟨j, rfl, hj, ho, hb, hd⟩ := hrel
          have HO : Hid (OT w2.heap.size wr _ ((L.take j).map (fun i => (l.getD i (nd0 0)).text))) := ho
          have HBr : Hid (Below w2.heap.size w2 wr) := hb
          have HD : Hid (allT l (L.drop j) = allT l L) := hd
          obtain ⟨va, vc, rfl, _, _⟩ := own_slice ho
          rw [List.length_map, List.length_take_of_le hj] at HO ⊢
          clear hd
          by_cases hjl : j < L.length
          · have q1 : decide ((j : Int) < (L.length : Int)) = true := by simp; omega
            obtain ⟨kg, rfl, ckj⟩ := HAT.out wr hb j hjl
            have hkl : L.getD j 0 < l.length := HLT.out _ (by rw [List.getD_eq_getElem?_getD, List.getElem?_eq_getElem hjl]; exact List.getElem_mem hjl)
            have htm := take_map (v := l) hjl
            have hr2 := HD.out
            rw [allT_drop hjl] at hr2
            obtain ⟨g2, off2, e2, hc3⟩ := (HN2.out wr hb).at hkl
            cases e2
            generalize L.getD j 0 = m at *
            obtain ⟨x, hx⟩ : ∃ n, l.getD m (nd0 0) = n := ⟨_, rfl⟩
            rw [hx] at hc3 htm hr2
            have ck0 := hc3 0 (.int .i64 x.kind) (by omega) rfl
            have ck2 := hc3 2 (.string ⟨x.text.toArray⟩) (by omega) rfl
            rw [Nat.add_zero] at ck0
            unfold iV at ckj
            by_cases hx5 : x.kind = 5
            · have q6 : (x.kind != 5) = false := by simpa using hx5
              have HD2 : Hid (allT l (L.drop (j + 1)) = allT l L) := by show _ = _; rw [← hr2, decide_eq_true hx5]; rfl
              generalize hT : (L.take j).map (fun i => (l.getD i (nd0 0)).text) = T at *
              have hTl : T.length = j := by rw [← hT]; simp; omega
              have HTl : Hid (T.length = j) := hTl
              have HTM : Hid ((L.take (j + 1)).map (fun i => (l.getD i (nd0 0)).text) = T ++ [x.text]) := htm
              have ho1 : OT w2.heap.size (wr.alloc (.cells #[.string ⟨x.text.toArray⟩] 9)) (.slice va j vc) T := World.ownsRow.alloc HO.out _
              have hsz : w2.heap.size ≤ (wr.alloc (.cells #[.string ⟨x.text.toArray⟩] 9)).heap.size := by rw [alloc_size]; have := hb.size; omega
              have hBa : Below w2.heap.size w2 (wr.alloc (.cells #[.string ⟨x.text.toArray⟩] 9)) := hb.trans ((alloc_below _ _).mono hb.size)
              clear ho hb hc3 hx htm hT hTl hr2 HD hx5 HF
              go_wp2_with (at_builtin; refine append_txt (wr := wr.alloc (.cells #[.string ⟨x.text.toArray⟩] 9)) rfl (.tmp 52) (.tmp 61) rfl w2.heap.size (.slice va j vc) T rfl ho1 (some ⟨wr.heap.size, 0, none⟩) 1 [x.text] rfl (one_txt wr x.text) (fun h => by cases h) (by rw [HTl.out]; simp only [List.length_cons, List.length_nil]; omega) hsz ?_; intro v1 w4 ho4 hg4; have HO4 : Hid (OT w2.heap.size w4 v1 (T ++ [x.text])) := ho4; have HB4 : Hid (Below w2.heap.size w2 w4) := hBa.grown hg4 hsz (own_block ho1); clear ho4 hg4 ho1 hBa hsz)
              go_roundw
              case rel => exact ⟨j + 1, by go_num, by omega, by rw [HTM.out]; exact HO4.out, HB4.out, HD2.out⟩
              case measure => simp [intOf]; omega
            · have q6 : (x.kind != 5) = true := by simpa using hx5
              have HA2 : Hid (allT l L = false) := by show _ = _; rw [← hr2, decide_eq_false hx5]; rfl
              have HX : Hid (daF l k = ([], false)) := by show _ = _; rw [HF.out]; exact if_neg (by rw [HA2.out]; decide)
              have HBz : Hid (Below w.heap.size w wr) := HB2.out.trans (hb.mono HB2.out.size)
              clear ho hb hc3 hx htm hr2 HD hx5 HF HO
              go_wp2
              go_ret3
              rw [HX.out, HO2.out, HA2.out]
              exact ⟨⟨_, rfl, World.ownsRow_nil _ _ _ _⟩, HBz.out⟩
          · have q1 : decide ((j : Int) < (L.length : Int)) = false := by simp; omega
            have HA2 : Hid (allT l L = true) := by show _ = _; rw [← HD.out, List.drop_eq_nil_of_le (by omega)]; rfl
            have HX : Hid (daF l k = (L.map fun i => (l.getD i (nd0 0)).text, true)) := by show _ = _; rw [HF.out]; exact if_pos HA2.out
            have HY : Hid (OT w2.heap.size wr (.slice va j vc) (L.map (fun i => (l.getD i (nd0 0)).text))) := by
              have := HO.out
              rwa [List.take_of_length_le (by omega)] at this
            have HS : Hid (w.heap.size ≤ w2.heap.size) := HB2.out.size
            have HBz : Hid (Below w.heap.size w wr) := HB2.out.trans (hb.mono HB2.out.size)
            clear ho hb HO HD HF
            go_wp2
            go_ret3
            rw [HX.out, HO2.out, HA2.out]
            exact ⟨⟨_, rfl, own_mono HY.out HS.out⟩, HBz.out⟩
      · have q6 : (n.kind != 6) = true := by simpa using h6
        have HO2 : Hid (okA l k = false) := by show _ = _; rw [HO.out, decide_eq_false h5, decide_eq_false h6]; rfl
        have HF : Hid (daF l k = ([], false)) := by show _ = _; unfold daF; rw [if_neg (by rw [HO2.out]; decide)]
        clear HO HT h5 h6 hB CK HN1
        go_wp2
        go_ret3
        rw [HF.out, HO2.out]
        exact ⟨⟨_, rfl, World.ownsRow_nil _ _ _ _⟩, HB.out⟩

end Go.Proofs.YtjaopeenkbcjcaaGreatDoor

namespace Go.Proofs.YtjaopeenkbcjcaaGreatDoor
open Go.RowKit Go.Shelf

theorem results_tm2 {fn : Func} {u p : Tmp} (h : fn.results = #[.cell p 25, .tmp u]) (tmps : Array Value) (w : World) (b : Nat) (t : Tm) (y : Value) (hu : tmps.getD u undef = y) (hp : tmps.getD p undef = .pointer (some ⟨b, 0, none⟩)) (hb : Bl 25 w b (tmC t)) :
    (results fn tmps).run Tryz.prog w = .ok (.tuple #[tmV t, y]) w := by
  have hr : (loadVar 25 ⟨b, 0, none⟩).run Tryz.prog w = .ok (tmV t) w := by
    refine run_loadVar_mid w b 0 25 (tmC t) _ ?_ Tryz.underlying25 rfl (by kernel_rfl)
    intro j v hv
    obtain ⟨hj, e⟩ := List.getElem?_eq_some_iff.1 hv
    rw [Nat.zero_add, ← e]
    exact hb.cell j hj
  have hr2 : (results fn tmps).run Tryz.prog w = ((asAddr (tmps.getD p undef)).run Tryz.prog w).andThen fun a w₁ => ((loadVar 25 a).run Tryz.prog w₁).andThen fun v w₂ => .ok (.tuple #[v, tmps.getD u undef]) w₂ := by
    simp only [results, h]
    simp [Sem.run_bind, Result.andThen]
  rw [hr2, hp]
  unfold asAddr
  simp only [Sem.run_pure, Result.andThen_ok]
  rw [hr, hu]
  rfl

set_option maxRecDepth 100000 in
set_option maxHeartbeats 8000000 in
theorem rtime_any (l : List Nd) (ao : Option Addr) (cap : Nat) (k : List UInt8) (w : World) (h : NR w (.slice ao l.length cap) l ao cap) (hl : l.length ≤ 262144) (hA : ∀ i, i < l.length → At l i) (h0 : 0 < l.length) :
    Calls Tryz.prog 46 #[.slice ao l.length cap, .string ⟨k.toArray⟩] w fun e w' => e = .returned (.tuple #[tmV (dmF l k), .bool (okM l k)]) ∧ Below w.heap.size w w' := by
  obtain ⟨w0, hw0⟩ : ∃ w0 : World, w.alloc (.cells (tmC tm0).toArray 25) = w0 := ⟨_, rfl⟩
  have hB0 : Below w.heap.size w w0 := by rw [← hw0]; exact alloc_below _ _
  have HBl : Hid (Bl 25 w0 w.heap.size (tmC tm0)) := by rw [← hw0]; exact alloc_bl _ _ _
  have HB0 : Hid (Below w.heap.size w w0) := hB0
  have HW0 : Hid (w.alloc (.cells #[.bool false, .int .i64 0] 25) = w0) := hw0
  have CM := rmember_any l ao cap 0 k w0 (h.below hB0 (Nat.le_refl _)) hl hA h0
  rw [Int.natCast_zero] at CM
  have HN : Hid (NR w0 (.slice ao l.length cap) l ao cap) := h.below hB0 (Nat.le_refl _)
  have hlt : ∀ i ∈ kidsF l 0, i < l.length := kidsF_lt
  have hgi : (Tryz.prog.info? 25).map (·.size) = some 2 := by kernel_rfl
  rcases mem_in l k with e | ⟨i, hi, e, _⟩
  · have HO : Hid (okM l k = true) := by show _ = _; unfold okM; rw [e]; rfl
    have HF : Hid (dmF l k = tm0) := by show _ = _; unfold dmF; rw [if_pos HO.out]; unfold moF; rw [e]; exact if_pos (by decide)
    rw [e] at CM
    clear h hlt e hB0 hw0 hA
    go_enter Tryz.func46, Tryz.ntmps46
    go_wp2_with fail
    rw [HW0.out]
    clear HW0
    refine CM.mono ?_
    clear CM
    rintro e w1 ⟨rfl, hB⟩
    have HB : Hid (Below w.heap.size w w1) := HB0.out.trans (hB.mono HB0.out.size)
    have HBox : Hid (Bl 25 w1 w.heap.size (tmC tm0)) := HBl.out.below hB HBl.out.lt
    clear hB HN HB0 HBl
    obtain ⟨wz, hwz⟩ : ∃ wz, w1.setRow w.heap.size (tmC tm0).toArray = wz := ⟨_, rfl⟩
    have HBz : Hid (Bl 25 wz w.heap.size (tmC tm0)) := by rw [← hwz]; exact set_bl2 HBox.out
    have Hz : Hid (Below w.heap.size w wz) := by rw [← hwz]; exact setRow_below2 _ HB.out (Nat.le_refl _)
    have HWz : Hid (w1.setRow w.heap.size (tmC tm0).toArray = wz) := hwz
    clear hwz
    go_wp2_with (refine wpList_store_row rfl 25 (.tmp 4) (.tmp 12) rfl w.heap.size (tmC tm0).toArray rfl rfl 25 (tmC tm0).toArray HBox.out hgi rfl (by simp [tmC, tm0, Value.oneCell']) ?_; rw [HWz.out]; clear HWz hgi)
    (try simp only [Exit.inBlock, Exit.then])
    refine bodyPost_ret (v := .tuple #[tmV tm0, .bool true]) (results_tm2 rfl _ _ w.heap.size tm0 _ rfl rfl HBz.out) rfl ⟨?_, Hz.out⟩
    rw [HF.out, HO.out]
  · have hil := hlt i hi
    obtain ⟨n, hn⟩ : ∃ n, l.getD i (nd0 0) = n := ⟨_, rfl⟩
    have HO : Hid (okM l k = (decide (n.kind = 4) && n.whole)) := by show _ = _; unfold okM; rw [e, Int.toNat_natCast, hn, decide_eq_false (by omega)]; rfl
    have HT : Hid (moF l k = ⟨true, n.int⟩) := by show _ = _; unfold moF; rw [e, Int.toNat_natCast, hn]; exact if_neg (by omega)
    have q0 : decide ((i : Int) < 0) = false := decide_eq_false (by omega)
    rw [e] at CM
    clear h hlt e hi hA hB0 hw0
    go_enter Tryz.func46, Tryz.ntmps46
    go_wp2_with fail
    rw [HW0.out]
    clear HW0
    refine CM.mono ?_
    clear CM
    rintro e w1 ⟨rfl, hB⟩
    have HB : Hid (Below w.heap.size w w1) := HB0.out.trans (hB.mono HB0.out.size)
    have HBox : Hid (Bl 25 w1 w.heap.size (tmC tm0)) := HBl.out.below hB HBl.out.lt
    obtain ⟨g, off, rfl, hc2⟩ := (HN.out.below hB (Nat.le_refl _)).at hil
    rw [hn] at hc2
    have ck0 := hc2 0 (.int .i64 n.kind) (by omega) rfl
    have ck3 := hc2 3 (.bool n.whole) (by omega) rfl
    have ck4 := hc2 4 (.int .i64 n.int) (by omega) rfl
    rw [Nat.add_zero] at ck0
    clear hB HN hc2 hn HB0 HBl
    by_cases hok : n.kind = 4 ∧ n.whole = true
    · obtain ⟨h4, hw⟩ := hok
      have q4 : (n.kind != 4) = false := by simpa using h4
      have HO2 : Hid (okM l k = true) := by show _ = _; rw [HO.out, decide_eq_true h4, hw]; rfl
      have HF : Hid (dmF l k = ⟨true, n.int⟩) := by show _ = _; unfold dmF; rw [if_pos HO2.out]; exact HT.out
      rw [hw] at ck3
      clear HO HT h4 hw
      obtain ⟨wz, hwz⟩ : ∃ wz, w1.setRow w.heap.size (tmC ⟨true, n.int⟩).toArray = wz := ⟨_, rfl⟩
      have HBz : Hid (Bl 25 wz w.heap.size (tmC ⟨true, n.int⟩)) := by rw [← hwz]; exact set_bl2 HBox.out
      have Hz : Hid (Below w.heap.size w wz) := by rw [← hwz]; exact setRow_below2 _ HB.out (Nat.le_refl _)
      have HWz : Hid (w1.setRow w.heap.size (tmC ⟨true, n.int⟩).toArray = wz) := hwz
      clear hwz
      go_wp2_with (refine wpList_store_row rfl 25 (.tmp 4) (.tmp 33) rfl w.heap.size (tmC ⟨true, n.int⟩).toArray rfl rfl 25 (tmC tm0).toArray HBox.out hgi rfl (by simp [tmC, Value.oneCell']) ?_; rw [HWz.out]; clear HWz hgi)
      (try simp only [Exit.inBlock, Exit.then])
      refine bodyPost_ret (v := .tuple #[tmV ⟨true, n.int⟩, .bool true]) (results_tm2 rfl _ _ w.heap.size ⟨true, n.int⟩ _ rfl rfl HBz.out) rfl ⟨?_, Hz.out⟩
      rw [HF.out, HO2.out]
    · have HO2 : Hid (okM l k = false) := by
        show _ = _
        rw [HO.out]
        by_cases h4 : n.kind = 4
        · have hw : n.whole = false := by
            cases hx : n.whole
            · rfl
            · exact absurd ⟨h4, hx⟩ hok
          rw [hw, Bool.and_false]
        · rw [decide_eq_false h4]; rfl
      have HF : Hid (dmF l k = tm0) := by show _ = _; unfold dmF; rw [if_neg (by rw [HO2.out]; decide)]
      have HQ : Hid ((n.kind != 4) = true ∨ ((n.kind != 4) = false ∧ n.whole = false)) := by
        show _ ∨ _
        by_cases h4 : n.kind = 4
        · refine .inr ⟨by simpa using h4, ?_⟩
          cases hx : n.whole
          · rfl
          · exact absurd ⟨h4, hx⟩ hok
        · exact .inl (by simpa using h4)
      clear HO HT hok
      obtain ⟨wz, hwz⟩ : ∃ wz, w1.setRow w.heap.size (tmC tm0).toArray = wz := ⟨_, rfl⟩
      have HBz : Hid (Bl 25 wz w.heap.size (tmC tm0)) := by rw [← hwz]; exact set_bl2 HBox.out
      have Hz : Hid (Below w.heap.size w wz) := by rw [← hwz]; exact setRow_below2 _ HB.out (Nat.le_refl _)
      have HWz : Hid (w1.setRow w.heap.size (tmC tm0).toArray = wz) := hwz
      clear hwz
      rcases HQ.out with q4 | ⟨q4, hw⟩
      · clear HQ
        go_wp2_with (refine wpList_store_row rfl 25 (.tmp 4) (.tmp 27) rfl w.heap.size (tmC tm0).toArray rfl rfl 25 (tmC tm0).toArray HBox.out hgi rfl (by simp [tmC, tm0, Value.oneCell']) ?_; rw [HWz.out]; clear HWz hgi)
        (try simp only [Exit.inBlock, Exit.then])
        refine bodyPost_ret (v := .tuple #[tmV tm0, .bool false]) (results_tm2 rfl _ _ w.heap.size tm0 _ rfl rfl HBz.out) rfl ⟨?_, Hz.out⟩
        rw [HF.out, HO2.out]
      · rw [hw] at ck3
        clear HQ hw
        go_wp2_with (refine wpList_store_row rfl 25 (.tmp 4) (.tmp 27) rfl w.heap.size (tmC tm0).toArray rfl rfl 25 (tmC tm0).toArray HBox.out hgi rfl (by simp [tmC, tm0, Value.oneCell']) ?_; rw [HWz.out]; clear HWz hgi)
        (try simp only [Exit.inBlock, Exit.then])
        refine bodyPost_ret (v := .tuple #[tmV tm0, .bool false]) (results_tm2 rfl _ _ w.heap.size tm0 _ rfl rfl HBz.out) rfl ⟨?_, Hz.out⟩
        rw [HF.out, HO2.out]

end Go.Proofs.YtjaopeenkbcjcaaGreatDoor

namespace Go.Proofs.YtjaopeenkbcjcaaGreatDoor
open Go.RowKit Go.Shelf

set_option maxRecDepth 100000 in
set_option maxHeartbeats 16000000 in
/-- The document's Parse of claims. -/
theorem rcparse_any (t : List UInt8) (w : World) :
    Calls Tryz.prog 27 #[.string ⟨t.toArray⟩] w fun e w' => (∃ va aa, e = .returned (.tuple #[clV va aa (cparseF t).1, .int .i64 ((cparseF t).2 : Nat)]) ∧ NO w.heap.size w' va (cparseF t).1.val ∧ OT w.heap.size w' aa (cparseF t).1.aud) ∧ Below w.heap.size w w' := by
  obtain ⟨w0, hw0⟩ : ∃ w0 : World, w.alloc (.cells (clC (.slice none 0 0) (.slice none 0 0) cm0).toArray 27) = w0 := ⟨_, rfl⟩
  have HB0 : Hid (Below w.heap.size w w0) := by rw [← hw0]; exact alloc_below _ _
  have HBox0 : Hid (Bl 27 w0 w.heap.size (clC (.slice none 0 0) (.slice none 0 0) cm0)) := by rw [← hw0]; exact alloc_bl _ _ _
  have C0 := rparse_any t w0
  rw [dparse_eq t] at C0
  have HS0 : Hid (w.heap.size < w0.heap.size) := HBox0.out.lt
  have HW0 : Hid (w.alloc (.cells #[.slice none 0 0, .string ⟨#[]⟩, .bool false, .string ⟨#[]⟩, .bool false, .slice none 0 0, .bool false, .string ⟨#[]⟩, .bool false, .bool false, .int .i64 0, .bool false, .int .i64 0, .bool false, .int .i64 0] 27) = w0) := hw0
  have hbd := (parse_bd t).1
  have HP : Hid (cparseF t = if (parseF t).2.1 ≠ 0 then (cm0, (parseF t).2.1)
    else if ((parseF t).1.getD 0 (nd0 0)).kind ≠ 7 then (cm0, 130)
    else if (kidsF (parseF t).1 0).all (fitF (parseF t).1) then (saidF (parseF t).1, 0) else (cm0, 131)) := rfl
  have HV : Hid ((parseF t).2.1 = 0 → Sq 0 [[]] (parseF t).1) := parse_val
  clear hw0
  obtain ⟨R, hR⟩ : ∃ R, cparseF t = R := ⟨_, rfl⟩
  rw [hR] at HP ⊢
  clear hR
  generalize parseF t = pf at *
  obtain ⟨l, c, p⟩ := pf
  simp only at C0 HP hbd HV
  go_enter Tryz.func27, Tryz.ntmps27
  go_wp2_with fail
  rw [HW0.out]
  clear HW0
  refine C0.mono ?_
  clear C0
  rintro e w1 ⟨hB1, v, rfl, hno⟩
  obtain ⟨ao, cap, hN⟩ := hno.nr
  obtain ⟨rfl, hcap, _⟩ := id hN
  have HB1 : Hid (Below w.heap.size w w1) := HB0.out.trans (hB1.mono HB0.out.size)
  have HBox1 : Hid (Bl 27 w1 w.heap.size (clC (.slice none 0 0) (.slice none 0 0) cm0)) := HBox0.out.below hB1 HS0.out
  have HNO : Hid (NO w.heap.size w1 (.slice ao l.length cap) l) := own_mono hno (Nat.le_of_lt HS0.out)
  have HN : Hid (NR w1 (.slice ao l.length cap) l ao cap) := hN
  have HS1 : Hid (w.heap.size < w1.heap.size) := HBox1.out.lt
  clear hno hN hB1 HB0 HBox0 HS0
  by_cases h0 : c = 0
  · subst h0
    have hsq := HV.out rfl
    have HA : Hid (∀ i, i < l.length → At l i) := fun i hi => at_of hsq hbd hi
    have hpos : 0 < l.length := (all_of hsq hbd).1
    have HOK : Hid ((l.getD 0 (nd0 0)).kind = 7 → okF l = (kidsF l 0).all (fitF l)) := fun h7 => ok_all hsq hbd h7
    have HP2 : Hid (R = if (l.getD 0 (nd0 0)).kind ≠ 7 then (cm0, 130) else if (kidsF l 0).all (fitF l) then (saidF l, 0) else (cm0, 131)) := by show _ = _; rw [HP.out, if_neg (fun h => h rfl)]
    clear hsq HV HP
    obtain ⟨g, off, rfl, hcell⟩ := HN.out.at hpos
    obtain ⟨K, hK⟩ : ∃ K, (l.getD 0 (nd0 0)).kind = K := ⟨_, rfl⟩
    have ck := hcell 0 (.int .i64 K) (by omega) (by rw [← hK]; rfl)
    simp only [Nat.zero_mul, Nat.add_zero] at ck
    rw [hK] at HP2 HOK
    clear hcell hK
    have hbv : 0 < (l.length : Int) := by omega
    by_cases h7 : K = 7
    · subst h7
      have HP3 : Hid (R = if okF l then (saidF l, 0) else (cm0, 131)) := by show _ = _; rw [HOK.out rfl, HP2.out]; exact if_neg (fun h => h rfl)
      have HNq : Hid (∀ wx, Below w1.heap.size w1 wx → NR wx (.slice (some ⟨g, off, none⟩) l.length cap) l (some ⟨g, off, none⟩) cap) := fun wx hx => HN.out.below hx (Nat.le_refl _)
      have HNOq : Hid (∀ wx, Below w1.heap.size w1 wx → NO w.heap.size wx (.slice (some ⟨g, off, none⟩) l.length cap) l) := fun wx hx => own_below HNO.out hx (Nat.le_refl _)
      have HBq : Hid (∀ wx, Below w1.heap.size w1 wx → Below w.heap.size w wx) := fun wx hx => HB1.out.trans (hx.mono HB1.out.size)
      have HXq : Hid (∀ wx, Below w1.heap.size w1 wx → Bl 27 wx w.heap.size (clC (.slice none 0 0) (.slice none 0 0) cm0)) := fun wx hx => HBox1.out.below hx HS1.out
      have HCt : Hid (∀ (k : List UInt8) (wq : World), Below w1.heap.size w1 wq → Calls Tryz.prog 44 #[.slice (some ⟨g, off, none⟩) l.length cap, .string ⟨k.toArray⟩] wq fun e w' => e = .returned (.tuple #[.string ⟨(dtF l k).1.toArray⟩, .bool (dtF l k).2, .bool (okT l k)]) ∧ Below wq.heap.size wq w') := fun k wq hq => rtext_any l _ cap k wq (HNq.out wq hq) hbd HA.out hpos
      have HCm : Hid (∀ (k : List UInt8) (wq : World), Below w1.heap.size w1 wq → Calls Tryz.prog 46 #[.slice (some ⟨g, off, none⟩) l.length cap, .string ⟨k.toArray⟩] wq fun e w' => e = .returned (.tuple #[tmV (dmF l k), .bool (okM l k)]) ∧ Below wq.heap.size wq w') := fun k wq hq => rtime_any l _ cap k wq (HNq.out wq hq) hbd HA.out hpos
      have HCa : Hid (∀ (k : List UInt8) (wq : World), Below w1.heap.size w1 wq → Calls Tryz.prog 45 #[.slice (some ⟨g, off, none⟩) l.length cap, .string ⟨k.toArray⟩] wq fun e w' => (∃ v, e = .returned (.tuple #[v, .bool (daF l k).2, .bool (okA l k)]) ∧ OT wq.heap.size w' v (daF l k).1) ∧ Below wq.heap.size wq w') := fun k wq hq => rtexts_any l _ cap k wq (HNq.out wq hq) hbd HA.out hpos
      have HRes : Hid (okT l kIss = true → okT l kSub = true → okT l kJti = true → okA l kAud = true → okM l kExp = true → okM l kNbf = true → okM l kIat = true → R = (⟨l, (dtF l kIss).1, (dtF l kIss).2, (dtF l kSub).1, (dtF l kSub).2, (daF l kAud).1, (daF l kAud).2, (dtF l kJti).1, (dtF l kJti).2, dmF l kExp, dmF l kNbf, dmF l kIat⟩, 0)) := fun a b d f g h i => by
        rw [HP3.out]
        unfold okF dtF daF dmF
        rw [a, b, d, f, g, h, i]
        rfl
      have HBad : Hid (okT l kIss = false ∨ okT l kSub = false ∨ okT l kJti = false ∨ okA l kAud = false ∨ okM l kExp = false ∨ okM l kNbf = false ∨ okM l kIat = false → R = (cm0, 131)) := fun hx => by
        rw [HP3.out]
        have : okF l = false := by
          unfold okF
          rcases hx with h | h | h | h | h | h | h <;> rw [h] <;> simp
        rw [this]
        rfl
      clear HP2 HOK HP3 HN HNO HB1 HBox1 HA
      have C1' := HCt.out kIss
      obtain ⟨x1, hx1⟩ : ∃ x, (dtF l kIss).1 = x := ⟨_, rfl⟩
      obtain ⟨y1, hy1⟩ : ∃ x, (dtF l kIss).2 = x := ⟨_, rfl⟩
      obtain ⟨z1, hz1⟩ : ∃ x, okT l kIss = x := ⟨_, rfl⟩
      rw [hx1, hy1, hz1] at C1'
      rw [hx1, hy1, hz1] at HRes
      rw [hz1] at HBad
      have C2' := HCt.out kSub
      obtain ⟨x2, hx2⟩ : ∃ x, (dtF l kSub).1 = x := ⟨_, rfl⟩
      obtain ⟨y2, hy2⟩ : ∃ x, (dtF l kSub).2 = x := ⟨_, rfl⟩
      obtain ⟨z2, hz2⟩ : ∃ x, okT l kSub = x := ⟨_, rfl⟩
      rw [hx2, hy2, hz2] at C2'
      rw [hx2, hy2, hz2] at HRes
      rw [hz2] at HBad
      have C3' := HCt.out kJti
      obtain ⟨x3, hx3⟩ : ∃ x, (dtF l kJti).1 = x := ⟨_, rfl⟩
      obtain ⟨y3, hy3⟩ : ∃ x, (dtF l kJti).2 = x := ⟨_, rfl⟩
      obtain ⟨z3, hz3⟩ : ∃ x, okT l kJti = x := ⟨_, rfl⟩
      rw [hx3, hy3, hz3] at C3'
      rw [hx3, hy3, hz3] at HRes
      rw [hz3] at HBad
      have C4' := HCa.out kAud
      obtain ⟨x4, hx4⟩ : ∃ x, (daF l kAud).1 = x := ⟨_, rfl⟩
      obtain ⟨y4, hy4⟩ : ∃ x, (daF l kAud).2 = x := ⟨_, rfl⟩
      obtain ⟨z4, hz4⟩ : ∃ x, okA l kAud = x := ⟨_, rfl⟩
      rw [hx4, hy4, hz4] at C4'
      rw [hx4, hy4, hz4] at HRes
      rw [hz4] at HBad
      have C5' := HCm.out kExp
      obtain ⟨x5, hx5⟩ : ∃ x, dmF l kExp = x := ⟨_, rfl⟩
      obtain ⟨z5, hz5⟩ : ∃ x, okM l kExp = x := ⟨_, rfl⟩
      rw [hx5, hz5] at C5'
      rw [hx5, hz5] at HRes
      rw [hz5] at HBad
      obtain ⟨xh5, xa5⟩ := x5
      have C6' := HCm.out kNbf
      obtain ⟨x6, hx6⟩ : ∃ x, dmF l kNbf = x := ⟨_, rfl⟩
      obtain ⟨z6, hz6⟩ : ∃ x, okM l kNbf = x := ⟨_, rfl⟩
      rw [hx6, hz6] at C6'
      rw [hx6, hz6] at HRes
      rw [hz6] at HBad
      obtain ⟨xh6, xa6⟩ := x6
      have C7' := HCm.out kIat
      obtain ⟨x7, hx7⟩ : ∃ x, dmF l kIat = x := ⟨_, rfl⟩
      obtain ⟨z7, hz7⟩ : ∃ x, okM l kIat = x := ⟨_, rfl⟩
      rw [hx7, hz7] at C7'
      rw [hx7, hz7] at HRes
      rw [hz7] at HBad
      obtain ⟨xh7, xa7⟩ := x7
      clear HCt HCm HCa hx1 hz1 hy1 hx2 hz2 hy2 hx3 hz3 hy3 hx4 hz4 hy4 hx5 hz5 hx6 hz6 hx7 hz7
      have HC1 : Hid (∀ (wq : World), Below w1.heap.size w1 wq → Calls Tryz.prog 44 #[.slice (some ⟨g, off, none⟩) l.length cap, .string ⟨#[105, 115, 115]⟩] wq fun e w' => e = .returned (.tuple #[.string ⟨x1.toArray⟩, .bool y1, .bool z1]) ∧ Below wq.heap.size wq w') := C1'
      have HC2 : Hid (∀ (wq : World), Below w1.heap.size w1 wq → Calls Tryz.prog 44 #[.slice (some ⟨g, off, none⟩) l.length cap, .string ⟨#[115, 117, 98]⟩] wq fun e w' => e = .returned (.tuple #[.string ⟨x2.toArray⟩, .bool y2, .bool z2]) ∧ Below wq.heap.size wq w') := C2'
      have HC3 : Hid (∀ (wq : World), Below w1.heap.size w1 wq → Calls Tryz.prog 44 #[.slice (some ⟨g, off, none⟩) l.length cap, .string ⟨#[106, 116, 105]⟩] wq fun e w' => e = .returned (.tuple #[.string ⟨x3.toArray⟩, .bool y3, .bool z3]) ∧ Below wq.heap.size wq w') := C3'
      have HC4 : Hid (∀ (wq : World), Below w1.heap.size w1 wq → Calls Tryz.prog 45 #[.slice (some ⟨g, off, none⟩) l.length cap, .string ⟨#[97, 117, 100]⟩] wq fun e w' => (∃ v, e = .returned (.tuple #[v, .bool y4, .bool z4]) ∧ OT wq.heap.size w' v x4) ∧ Below wq.heap.size wq w') := C4'
      have HC5 : Hid (∀ (wq : World), Below w1.heap.size w1 wq → Calls Tryz.prog 46 #[.slice (some ⟨g, off, none⟩) l.length cap, .string ⟨#[101, 120, 112]⟩] wq fun e w' => e = .returned (.tuple #[.agg #[.bool xh5, .int .i64 xa5], .bool z5]) ∧ Below wq.heap.size wq w') := C5'
      have HC6 : Hid (∀ (wq : World), Below w1.heap.size w1 wq → Calls Tryz.prog 46 #[.slice (some ⟨g, off, none⟩) l.length cap, .string ⟨#[110, 98, 102]⟩] wq fun e w' => e = .returned (.tuple #[.agg #[.bool xh6, .int .i64 xa6], .bool z6]) ∧ Below wq.heap.size wq w') := C6'
      have HC7 : Hid (∀ (wq : World), Below w1.heap.size w1 wq → Calls Tryz.prog 46 #[.slice (some ⟨g, off, none⟩) l.length cap, .string ⟨#[105, 97, 116]⟩] wq fun e w' => e = .returned (.tuple #[.agg #[.bool xh7, .int .i64 xa7], .bool z7]) ∧ Below wq.heap.size wq w') := C7'
      clear C1' C2' C3' C4' C5' C6' C7'
      have HY0 : Hid (Below w1.heap.size w1 w1) := Below.refl _ _
      have D1 := HC1.out w1 HY0.out
      clear HC1
      go_wp2_with fail
      refine D1.mono ?_
      clear D1 ck
      rintro e u1 ⟨rfl, hb⟩
      have HY1 : Hid (Below w1.heap.size w1 u1) := HY0.out.trans (hb.mono HY0.out.size)
      have HL1 : Hid (Below w1.heap.size w1 u1) := hb
      clear hb
      have D2 := HC2.out u1 HY1.out
      clear HC2
      go_wp2_with fail
      refine D2.mono ?_
      clear D2
      rintro e u2 ⟨rfl, hb⟩
      have HY2 : Hid (Below w1.heap.size w1 u2) := HY1.out.trans (hb.mono HY1.out.size)
      have HL2 : Hid (Below u1.heap.size u1 u2) := hb
      clear hb
      have D3 := HC3.out u2 HY2.out
      clear HC3
      go_wp2_with fail
      refine D3.mono ?_
      clear D3
      rintro e u3 ⟨rfl, hb⟩
      have HY3 : Hid (Below w1.heap.size w1 u3) := HY2.out.trans (hb.mono HY2.out.size)
      have HL3 : Hid (Below u2.heap.size u2 u3) := hb
      clear hb
      have D4 := HC4.out u3 HY3.out
      clear HC4
      go_wp2_with fail
      refine D4.mono ?_
      clear D4
      rintro e u4 ⟨⟨av, rfl, hot⟩, hb⟩
      obtain ⟨aA, aC, rfl, _, _⟩ := own_slice hot
      have HOT : Hid (OT u3.heap.size u4 (.slice aA x4.length aC) x4) := hot
      clear hot
      have HY4 : Hid (Below w1.heap.size w1 u4) := HY3.out.trans (hb.mono HY3.out.size)
      have HOS : Hid (w.heap.size ≤ u3.heap.size) := (HBq.out u3 HY3.out).size
      clear hb
      have D5 := HC5.out u4 HY4.out
      clear HC5
      go_wp2_with fail
      refine D5.mono ?_
      clear D5
      rintro e u5 ⟨rfl, hb⟩
      have HY5 : Hid (Below w1.heap.size w1 u5) := HY4.out.trans (hb.mono HY4.out.size)
      have HL5 : Hid (Below u4.heap.size u4 u5) := hb
      clear hb
      obtain ⟨v5, hv5⟩ : ∃ x, u5.alloc (.cells #[.bool xh5, .int .i64 xa5] 25) = x := ⟨_, rfl⟩
      have hA5 : Below u5.heap.size u5 v5 := by rw [← hv5]; exact alloc_below _ _
      have HT5 : Hid (Bl 25 v5 u5.heap.size [.bool xh5, .int .i64 xa5]) := by rw [← hv5]; exact alloc_bl _ _ _
      have HLA5 : Hid (Below u5.heap.size u5 v5) := hA5
      obtain ⟨b5, hb5⟩ : ∃ b, u5.heap.size = b := ⟨_, rfl⟩
      rw [hb5] at HT5
      have HBN5 : Hid (u5.heap.size = b5) := hb5
      have HWW5 : Hid (u5.alloc (.cells #[.bool xh5, .int .i64 xa5] 25) = v5) := hv5
      have HZ5 : Hid (Below w1.heap.size w1 v5) := HY5.out.trans (hA5.mono HY5.out.size)
      clear hv5 hA5 hb5
      have D6 := HC6.out v5 HZ5.out
      clear HC6
      go_wp2_with fail
      rw [HBN5.out, HWW5.out]
      clear HWW5 HBN5
      refine D6.mono ?_
      clear D6
      rintro e u6 ⟨rfl, hb⟩
      have HY6 : Hid (Below w1.heap.size w1 u6) := HZ5.out.trans (hb.mono HZ5.out.size)
      have HL6 : Hid (Below v5.heap.size v5 u6) := hb
      clear hb
      obtain ⟨v6, hv6⟩ : ∃ x, u6.alloc (.cells #[.bool xh6, .int .i64 xa6] 25) = x := ⟨_, rfl⟩
      have hA6 : Below u6.heap.size u6 v6 := by rw [← hv6]; exact alloc_below _ _
      have HT6 : Hid (Bl 25 v6 u6.heap.size [.bool xh6, .int .i64 xa6]) := by rw [← hv6]; exact alloc_bl _ _ _
      have HLA6 : Hid (Below u6.heap.size u6 v6) := hA6
      obtain ⟨b6, hb6⟩ : ∃ b, u6.heap.size = b := ⟨_, rfl⟩
      rw [hb6] at HT6
      have HBN6 : Hid (u6.heap.size = b6) := hb6
      have HWW6 : Hid (u6.alloc (.cells #[.bool xh6, .int .i64 xa6] 25) = v6) := hv6
      have HZ6 : Hid (Below w1.heap.size w1 v6) := HY6.out.trans (hA6.mono HY6.out.size)
      clear hv6 hA6 hb6
      have D7 := HC7.out v6 HZ6.out
      clear HC7
      go_wp2_with fail
      rw [HBN6.out, HWW6.out]
      clear HWW6 HBN6
      refine D7.mono ?_
      clear D7
      rintro e u7 ⟨rfl, hb⟩
      have HY7 : Hid (Below w1.heap.size w1 u7) := HZ6.out.trans (hb.mono HZ6.out.size)
      have HL7 : Hid (Below v6.heap.size v6 u7) := hb
      clear hb
      obtain ⟨v7, hv7⟩ : ∃ x, u7.alloc (.cells #[.bool xh7, .int .i64 xa7] 25) = x := ⟨_, rfl⟩
      have hA7 : Below u7.heap.size u7 v7 := by rw [← hv7]; exact alloc_below _ _
      have HT7 : Hid (Bl 25 v7 u7.heap.size [.bool xh7, .int .i64 xa7]) := by rw [← hv7]; exact alloc_bl _ _ _
      have HLA7 : Hid (Below u7.heap.size u7 v7) := hA7
      obtain ⟨b7, hb7⟩ : ∃ b, u7.heap.size = b := ⟨_, rfl⟩
      rw [hb7] at HT7
      have HBN7 : Hid (u7.heap.size = b7) := hb7
      have HWW7 : Hid (u7.alloc (.cells #[.bool xh7, .int .i64 xa7] 25) = v7) := hv7
      have HZ7 : Hid (Below w1.heap.size w1 v7) := HY7.out.trans (hA7.mono HY7.out.size)
      clear hv7 hA7 hb7
      have HBw : Hid (Below w.heap.size w v7) := HBq.out v7 HZ7.out
      have HBox : Hid (Bl 27 v7 w.heap.size (clC (.slice none 0 0) (.slice none 0 0) cm0)) := HXq.out v7 HZ7.out
      rcases (show (z1 = false) ∨ (z1 = true ∧ z2 = false) ∨ (z1 = true ∧ z2 = true ∧ z3 = false) ∨ (z1 = true ∧ z2 = true ∧ z3 = true ∧ z4 = false) ∨ (z1 = true ∧ z2 = true ∧ z3 = true ∧ z4 = true ∧ z5 = false) ∨ (z1 = true ∧ z2 = true ∧ z3 = true ∧ z4 = true ∧ z5 = true ∧ z6 = false) ∨ (z1 = true ∧ z2 = true ∧ z3 = true ∧ z4 = true ∧ z5 = true ∧ z6 = true ∧ z7 = false) ∨ (z1 = true ∧ z2 = true ∧ z3 = true ∧ z4 = true ∧ z5 = true ∧ z6 = true ∧ z7 = true) by cases z1 <;> cases z2 <;> cases z3 <;> cases z4 <;> cases z5 <;> cases z6 <;> cases z7 <;> simp) with rfl | ⟨rfl, rfl⟩ | ⟨rfl, rfl, rfl⟩ | ⟨rfl, rfl, rfl, rfl⟩ | ⟨rfl, rfl, rfl, rfl, rfl⟩ | ⟨rfl, rfl, rfl, rfl, rfl, rfl⟩ | ⟨rfl, rfl, rfl, rfl, rfl, rfl, rfl⟩ | ⟨rfl, rfl, rfl, rfl, rfl, rfl, rfl⟩
      · have HX : Hid (R = (cm0, 131)) := HBad.out (by simp)
        clear HRes HBad HOT
        obtain ⟨wz, hwz⟩ : ∃ wz, v7.setRow w.heap.size (clC (.slice none 0 0) (.slice none 0 0) cm0).toArray = wz := ⟨_, rfl⟩
        have HBz : Hid (Bl 27 wz w.heap.size (clC (.slice none 0 0) (.slice none 0 0) cm0)) := by rw [← hwz]; exact set_bl2 HBox.out
        have Hz : Hid (Below w.heap.size w wz) := by rw [← hwz]; exact setRow_below2 _ HBw.out (Nat.le_refl _)
        have HWz : Hid (v7.setRow w.heap.size (clC (.slice none 0 0) (.slice none 0 0) cm0).toArray = wz) := hwz
        clear hwz
        have hgi : (Tryz.prog.info? 27).map (·.size) = some 15 := by kernel_rfl
        go_wp2_with (first | (rw [HBN7.out, HWW7.out]; clear HBN7 HWW7; fail) | (rw [HBN7.out, HWW7.out]; refine wpList_store_row rfl 27 (.tmp 2) (.tmp 107) rfl w.heap.size (clC (.slice none 0 0) (.slice none 0 0) cm0).toArray rfl rfl 27 (clC (.slice none 0 0) (.slice none 0 0) cm0).toArray HBox.out hgi rfl (by simp [clC, cm0, Value.oneCell']) ?_; rw [HWz.out]; clear HWz hgi))
        (try simp only [Exit.inBlock, Exit.then])
        refine bodyPost_ret (v := .tuple #[clV (.slice none 0 0) (.slice none 0 0) cm0, .int .i64 131]) (results_cl2 rfl _ _ w.heap.size _ _ _ _ rfl rfl HBz.out) rfl ⟨⟨.slice none 0 0, .slice none 0 0, ?_, ?_, ?_⟩, Hz.out⟩
        · first | (rw [HX.out]; done) | (rw [HX.out]; rfl)
        · rw [HX.out]; exact World.ownsRow_nil _ _ _ _
        · rw [HX.out]; exact World.ownsRow_nil _ _ _ _
      · have HX : Hid (R = (cm0, 131)) := HBad.out (by simp)
        clear HRes HBad HOT
        obtain ⟨wz, hwz⟩ : ∃ wz, v7.setRow w.heap.size (clC (.slice none 0 0) (.slice none 0 0) cm0).toArray = wz := ⟨_, rfl⟩
        have HBz : Hid (Bl 27 wz w.heap.size (clC (.slice none 0 0) (.slice none 0 0) cm0)) := by rw [← hwz]; exact set_bl2 HBox.out
        have Hz : Hid (Below w.heap.size w wz) := by rw [← hwz]; exact setRow_below2 _ HBw.out (Nat.le_refl _)
        have HWz : Hid (v7.setRow w.heap.size (clC (.slice none 0 0) (.slice none 0 0) cm0).toArray = wz) := hwz
        clear hwz
        have hgi : (Tryz.prog.info? 27).map (·.size) = some 15 := by kernel_rfl
        go_wp2_with (first | (rw [HBN7.out, HWW7.out]; clear HBN7 HWW7; fail) | (rw [HBN7.out, HWW7.out]; refine wpList_store_row rfl 27 (.tmp 2) (.tmp 107) rfl w.heap.size (clC (.slice none 0 0) (.slice none 0 0) cm0).toArray rfl rfl 27 (clC (.slice none 0 0) (.slice none 0 0) cm0).toArray HBox.out hgi rfl (by simp [clC, cm0, Value.oneCell']) ?_; rw [HWz.out]; clear HWz hgi))
        (try simp only [Exit.inBlock, Exit.then])
        refine bodyPost_ret (v := .tuple #[clV (.slice none 0 0) (.slice none 0 0) cm0, .int .i64 131]) (results_cl2 rfl _ _ w.heap.size _ _ _ _ rfl rfl HBz.out) rfl ⟨⟨.slice none 0 0, .slice none 0 0, ?_, ?_, ?_⟩, Hz.out⟩
        · first | (rw [HX.out]; done) | (rw [HX.out]; rfl)
        · rw [HX.out]; exact World.ownsRow_nil _ _ _ _
        · rw [HX.out]; exact World.ownsRow_nil _ _ _ _
      · have HX : Hid (R = (cm0, 131)) := HBad.out (by simp)
        clear HRes HBad HOT
        obtain ⟨wz, hwz⟩ : ∃ wz, v7.setRow w.heap.size (clC (.slice none 0 0) (.slice none 0 0) cm0).toArray = wz := ⟨_, rfl⟩
        have HBz : Hid (Bl 27 wz w.heap.size (clC (.slice none 0 0) (.slice none 0 0) cm0)) := by rw [← hwz]; exact set_bl2 HBox.out
        have Hz : Hid (Below w.heap.size w wz) := by rw [← hwz]; exact setRow_below2 _ HBw.out (Nat.le_refl _)
        have HWz : Hid (v7.setRow w.heap.size (clC (.slice none 0 0) (.slice none 0 0) cm0).toArray = wz) := hwz
        clear hwz
        have hgi : (Tryz.prog.info? 27).map (·.size) = some 15 := by kernel_rfl
        go_wp2_with (first | (rw [HBN7.out, HWW7.out]; clear HBN7 HWW7; fail) | (rw [HBN7.out, HWW7.out]; refine wpList_store_row rfl 27 (.tmp 2) (.tmp 107) rfl w.heap.size (clC (.slice none 0 0) (.slice none 0 0) cm0).toArray rfl rfl 27 (clC (.slice none 0 0) (.slice none 0 0) cm0).toArray HBox.out hgi rfl (by simp [clC, cm0, Value.oneCell']) ?_; rw [HWz.out]; clear HWz hgi))
        (try simp only [Exit.inBlock, Exit.then])
        refine bodyPost_ret (v := .tuple #[clV (.slice none 0 0) (.slice none 0 0) cm0, .int .i64 131]) (results_cl2 rfl _ _ w.heap.size _ _ _ _ rfl rfl HBz.out) rfl ⟨⟨.slice none 0 0, .slice none 0 0, ?_, ?_, ?_⟩, Hz.out⟩
        · first | (rw [HX.out]; done) | (rw [HX.out]; rfl)
        · rw [HX.out]; exact World.ownsRow_nil _ _ _ _
        · rw [HX.out]; exact World.ownsRow_nil _ _ _ _
      · have HX : Hid (R = (cm0, 131)) := HBad.out (by simp)
        clear HRes HBad HOT
        obtain ⟨wz, hwz⟩ : ∃ wz, v7.setRow w.heap.size (clC (.slice none 0 0) (.slice none 0 0) cm0).toArray = wz := ⟨_, rfl⟩
        have HBz : Hid (Bl 27 wz w.heap.size (clC (.slice none 0 0) (.slice none 0 0) cm0)) := by rw [← hwz]; exact set_bl2 HBox.out
        have Hz : Hid (Below w.heap.size w wz) := by rw [← hwz]; exact setRow_below2 _ HBw.out (Nat.le_refl _)
        have HWz : Hid (v7.setRow w.heap.size (clC (.slice none 0 0) (.slice none 0 0) cm0).toArray = wz) := hwz
        clear hwz
        have hgi : (Tryz.prog.info? 27).map (·.size) = some 15 := by kernel_rfl
        go_wp2_with (first | (rw [HBN7.out, HWW7.out]; clear HBN7 HWW7; fail) | (rw [HBN7.out, HWW7.out]; refine wpList_store_row rfl 27 (.tmp 2) (.tmp 107) rfl w.heap.size (clC (.slice none 0 0) (.slice none 0 0) cm0).toArray rfl rfl 27 (clC (.slice none 0 0) (.slice none 0 0) cm0).toArray HBox.out hgi rfl (by simp [clC, cm0, Value.oneCell']) ?_; rw [HWz.out]; clear HWz hgi))
        (try simp only [Exit.inBlock, Exit.then])
        refine bodyPost_ret (v := .tuple #[clV (.slice none 0 0) (.slice none 0 0) cm0, .int .i64 131]) (results_cl2 rfl _ _ w.heap.size _ _ _ _ rfl rfl HBz.out) rfl ⟨⟨.slice none 0 0, .slice none 0 0, ?_, ?_, ?_⟩, Hz.out⟩
        · first | (rw [HX.out]; done) | (rw [HX.out]; rfl)
        · rw [HX.out]; exact World.ownsRow_nil _ _ _ _
        · rw [HX.out]; exact World.ownsRow_nil _ _ _ _
      · have HX : Hid (R = (cm0, 131)) := HBad.out (by simp)
        clear HRes HBad HOT
        obtain ⟨wz, hwz⟩ : ∃ wz, v7.setRow w.heap.size (clC (.slice none 0 0) (.slice none 0 0) cm0).toArray = wz := ⟨_, rfl⟩
        have HBz : Hid (Bl 27 wz w.heap.size (clC (.slice none 0 0) (.slice none 0 0) cm0)) := by rw [← hwz]; exact set_bl2 HBox.out
        have Hz : Hid (Below w.heap.size w wz) := by rw [← hwz]; exact setRow_below2 _ HBw.out (Nat.le_refl _)
        have HWz : Hid (v7.setRow w.heap.size (clC (.slice none 0 0) (.slice none 0 0) cm0).toArray = wz) := hwz
        clear hwz
        have hgi : (Tryz.prog.info? 27).map (·.size) = some 15 := by kernel_rfl
        go_wp2_with (first | (rw [HBN7.out, HWW7.out]; clear HBN7 HWW7; fail) | (rw [HBN7.out, HWW7.out]; refine wpList_store_row rfl 27 (.tmp 2) (.tmp 107) rfl w.heap.size (clC (.slice none 0 0) (.slice none 0 0) cm0).toArray rfl rfl 27 (clC (.slice none 0 0) (.slice none 0 0) cm0).toArray HBox.out hgi rfl (by simp [clC, cm0, Value.oneCell']) ?_; rw [HWz.out]; clear HWz hgi))
        (try simp only [Exit.inBlock, Exit.then])
        refine bodyPost_ret (v := .tuple #[clV (.slice none 0 0) (.slice none 0 0) cm0, .int .i64 131]) (results_cl2 rfl _ _ w.heap.size _ _ _ _ rfl rfl HBz.out) rfl ⟨⟨.slice none 0 0, .slice none 0 0, ?_, ?_, ?_⟩, Hz.out⟩
        · first | (rw [HX.out]; done) | (rw [HX.out]; rfl)
        · rw [HX.out]; exact World.ownsRow_nil _ _ _ _
        · rw [HX.out]; exact World.ownsRow_nil _ _ _ _
      · have HX : Hid (R = (cm0, 131)) := HBad.out (by simp)
        clear HRes HBad HOT
        obtain ⟨wz, hwz⟩ : ∃ wz, v7.setRow w.heap.size (clC (.slice none 0 0) (.slice none 0 0) cm0).toArray = wz := ⟨_, rfl⟩
        have HBz : Hid (Bl 27 wz w.heap.size (clC (.slice none 0 0) (.slice none 0 0) cm0)) := by rw [← hwz]; exact set_bl2 HBox.out
        have Hz : Hid (Below w.heap.size w wz) := by rw [← hwz]; exact setRow_below2 _ HBw.out (Nat.le_refl _)
        have HWz : Hid (v7.setRow w.heap.size (clC (.slice none 0 0) (.slice none 0 0) cm0).toArray = wz) := hwz
        clear hwz
        have hgi : (Tryz.prog.info? 27).map (·.size) = some 15 := by kernel_rfl
        go_wp2_with (first | (rw [HBN7.out, HWW7.out]; clear HBN7 HWW7; fail) | (rw [HBN7.out, HWW7.out]; refine wpList_store_row rfl 27 (.tmp 2) (.tmp 107) rfl w.heap.size (clC (.slice none 0 0) (.slice none 0 0) cm0).toArray rfl rfl 27 (clC (.slice none 0 0) (.slice none 0 0) cm0).toArray HBox.out hgi rfl (by simp [clC, cm0, Value.oneCell']) ?_; rw [HWz.out]; clear HWz hgi))
        (try simp only [Exit.inBlock, Exit.then])
        refine bodyPost_ret (v := .tuple #[clV (.slice none 0 0) (.slice none 0 0) cm0, .int .i64 131]) (results_cl2 rfl _ _ w.heap.size _ _ _ _ rfl rfl HBz.out) rfl ⟨⟨.slice none 0 0, .slice none 0 0, ?_, ?_, ?_⟩, Hz.out⟩
        · first | (rw [HX.out]; done) | (rw [HX.out]; rfl)
        · rw [HX.out]; exact World.ownsRow_nil _ _ _ _
        · rw [HX.out]; exact World.ownsRow_nil _ _ _ _
      · have HX : Hid (R = (cm0, 131)) := HBad.out (by simp)
        clear HRes HBad HOT
        obtain ⟨wz, hwz⟩ : ∃ wz, v7.setRow w.heap.size (clC (.slice none 0 0) (.slice none 0 0) cm0).toArray = wz := ⟨_, rfl⟩
        have HBz : Hid (Bl 27 wz w.heap.size (clC (.slice none 0 0) (.slice none 0 0) cm0)) := by rw [← hwz]; exact set_bl2 HBox.out
        have Hz : Hid (Below w.heap.size w wz) := by rw [← hwz]; exact setRow_below2 _ HBw.out (Nat.le_refl _)
        have HWz : Hid (v7.setRow w.heap.size (clC (.slice none 0 0) (.slice none 0 0) cm0).toArray = wz) := hwz
        clear hwz
        have hgi : (Tryz.prog.info? 27).map (·.size) = some 15 := by kernel_rfl
        go_wp2_with (first | (rw [HBN7.out, HWW7.out]; clear HBN7 HWW7; fail) | (rw [HBN7.out, HWW7.out]; refine wpList_store_row rfl 27 (.tmp 2) (.tmp 107) rfl w.heap.size (clC (.slice none 0 0) (.slice none 0 0) cm0).toArray rfl rfl 27 (clC (.slice none 0 0) (.slice none 0 0) cm0).toArray HBox.out hgi rfl (by simp [clC, cm0, Value.oneCell']) ?_; rw [HWz.out]; clear HWz hgi))
        (try simp only [Exit.inBlock, Exit.then])
        refine bodyPost_ret (v := .tuple #[clV (.slice none 0 0) (.slice none 0 0) cm0, .int .i64 131]) (results_cl2 rfl _ _ w.heap.size _ _ _ _ rfl rfl HBz.out) rfl ⟨⟨.slice none 0 0, .slice none 0 0, ?_, ?_, ?_⟩, Hz.out⟩
        · first | (rw [HX.out]; done) | (rw [HX.out]; rfl)
        · rw [HX.out]; exact World.ownsRow_nil _ _ _ _
        · rw [HX.out]; exact World.ownsRow_nil _ _ _ _
      · have HX := HRes.out rfl rfl rfl rfl rfl rfl rfl
        have HX1 : Hid (R = (⟨l, x1, y1, x2, y2, x4, y4, x3, y3, ⟨xh5, xa5⟩, ⟨xh6, xa6⟩, ⟨xh7, xa7⟩⟩, 0)) := HX
        clear HRes HBad HX
        have hT7 := HT7.out
        have hB67 : Below v6.heap.size v6 v7 := HL7.out.trans (HLA7.out.mono HL7.out.size)
        have hB57 : Below v5.heap.size v5 v7 := (HL6.out.trans (HLA6.out.mono HL6.out.size)).trans (hB67.mono (HL6.out.trans (HLA6.out.mono HL6.out.size)).size)
        have hB47 : Below u4.heap.size u4 v7 := (HL5.out.trans (HLA5.out.mono HL5.out.size)).trans (hB57.mono (HL5.out.trans (HLA5.out.mono HL5.out.size)).size)
        have hT6 : Bl 25 v7 b6 [.bool xh6, .int .i64 xa6] := HT6.out.below hB67 HT6.out.lt
        have hT5 : Bl 25 v7 b5 [.bool xh5, .int .i64 xa5] := HT5.out.below hB57 HT5.out.lt
        have p5 : v7.rangeAt b5 0 [.bool xh5, .int .i64 xa5] := fun j u hu => by
          obtain ⟨hj, e⟩ := List.getElem?_eq_some_iff.1 hu
          rw [Nat.zero_add, ← e]
          exact hT5.cell j hj
        have p6 : v7.rangeAt b6 0 [.bool xh6, .int .i64 xa6] := fun j u hu => by
          obtain ⟨hj, e⟩ := List.getElem?_eq_some_iff.1 hu
          rw [Nat.zero_add, ← e]
          exact hT6.cell j hj
        have p7 : v7.rangeAt b7 0 [.bool xh7, .int .i64 xa7] := fun j u hu => by
          obtain ⟨hj, e⟩ := List.getElem?_eq_some_iff.1 hu
          rw [Nat.zero_add, ← e]
          exact hT7.cell j hj
        have HO : Hid (OT w.heap.size v7 (.slice aA x4.length aC) x4) := own_mono (own_below HOT.out hB47 (Nat.le_refl _)) HOS.out
        have HNO : Hid (NO w.heap.size v7 (.slice (some ⟨g, off, none⟩) l.length cap) l) := HNOq.out v7 HZ7.out
        obtain ⟨x8, hx8⟩ : ∃ x, v7.alloc (.cells #[.slice (some ⟨g, off, none⟩) l.length cap, .string ⟨x1.toArray⟩, .bool y1, .string ⟨x2.toArray⟩, .bool y2, .slice aA x4.length aC, .bool y4, .string ⟨x3.toArray⟩, .bool y3, .bool xh5, .int .i64 xa5, .bool xh6, .int .i64 xa6, .bool xh7, .int .i64 xa7] 27) = x := ⟨_, rfl⟩
        have hA8 : Below v7.heap.size v7 x8 := by rw [← hx8]; exact alloc_below _ _
        have hC8 : Bl 27 x8 v7.heap.size [.slice (some ⟨g, off, none⟩) l.length cap, .string ⟨x1.toArray⟩, .bool y1, .string ⟨x2.toArray⟩, .bool y2, .slice aA x4.length aC, .bool y4, .string ⟨x3.toArray⟩, .bool y3, .bool xh5, .int .i64 xa5, .bool xh6, .int .i64 xa6, .bool xh7, .int .i64 xa7] := by rw [← hx8]; exact alloc_bl _ _ _
        have p8 : x8.rangeAt v7.heap.size 0 [.slice (some ⟨g, off, none⟩) l.length cap, .string ⟨x1.toArray⟩, .bool y1, .string ⟨x2.toArray⟩, .bool y2, .slice aA x4.length aC, .bool y4, .string ⟨x3.toArray⟩, .bool y3, .bool xh5, .int .i64 xa5, .bool xh6, .int .i64 xa6, .bool xh7, .int .i64 xa7] := fun j u hu => by
          obtain ⟨hj, e⟩ := List.getElem?_eq_some_iff.1 hu
          rw [Nat.zero_add, ← e]
          exact hC8.cell j hj
        have HW8 : Hid (v7.alloc (.cells #[.slice (some ⟨g, off, none⟩) l.length cap, .string ⟨x1.toArray⟩, .bool y1, .string ⟨x2.toArray⟩, .bool y2, .slice aA x4.length aC, .bool y4, .string ⟨x3.toArray⟩, .bool y3, .bool xh5, .int .i64 xa5, .bool xh6, .int .i64 xa6, .bool xh7, .int .i64 xa7] 27) = x8) := hx8
        have HBw8 : Hid (Below w.heap.size w x8) := HBw.out.trans (hA8.mono HBw.out.size)
        have HBox8 : Hid (Bl 27 x8 w.heap.size (clC (.slice none 0 0) (.slice none 0 0) cm0)) := HBox.out.below hA8 HBox.out.lt
        have HO8 : Hid (OT w.heap.size x8 (.slice aA x4.length aC) x4) := own_below HO.out hA8 (Nat.le_refl _)
        have HNO8 : Hid (NO w.heap.size x8 (.slice (some ⟨g, off, none⟩) l.length cap) l) := own_below HNO.out hA8 (Nat.le_refl _)
        have hct : (Tryz.prog.info? 25).map (·.size) = some 2 := by kernel_rfl
        have hcl : (Tryz.prog.info? 27).map (·.size) = some ([.slice (some ⟨g, off, none⟩) l.length cap, .string ⟨x1.toArray⟩, .bool y1, .string ⟨x2.toArray⟩, .bool y2, .slice aA x4.length aC, .bool y4, .string ⟨x3.toArray⟩, .bool y3, .bool xh5, .int .i64 xa5, .bool xh6, .int .i64 xa6, .bool xh7, .int .i64 xa7] : List Value).length := by kernel_rfl
        have hgi : (Tryz.prog.info? 27).map (·.size) = some 15 := by kernel_rfl
        clear hx8 hA8 hC8 hT7 hT6 hT5 hB67 hB57 hB47 HT5 HT6 HT7 HOT HL5 HL6 HL7 HLA5 HLA6 HLA7 HO HNO HBw HBox
        obtain ⟨wz, hwz⟩ : ∃ wz, x8.setRow w.heap.size (clC (.slice (some ⟨g, off, none⟩) l.length cap) (.slice aA x4.length aC) ⟨l, x1, y1, x2, y2, x4, y4, x3, y3, ⟨xh5, xa5⟩, ⟨xh6, xa6⟩, ⟨xh7, xa7⟩⟩).toArray = wz := ⟨_, rfl⟩
        have HBz : Hid (Bl 27 wz w.heap.size (clC (.slice (some ⟨g, off, none⟩) l.length cap) (.slice aA x4.length aC) ⟨l, x1, y1, x2, y2, x4, y4, x3, y3, ⟨xh5, xa5⟩, ⟨xh6, xa6⟩, ⟨xh7, xa7⟩⟩)) := by rw [← hwz]; exact set_bl2 HBox8.out
        have Hz : Hid (Below w.heap.size w wz) := by rw [← hwz]; exact setRow_below2 _ HBw8.out (Nat.le_refl _)
        have HOz : Hid (OT w.heap.size wz (.slice aA x4.length aC) x4) := by
          rw [← hwz]
          have ha := block_apart HO8.out HBox8.out (by decide)
          exact own_keep HO8.out fun g hg => setRow_other _ _ _ _ (fun e => ha (by rw [hg]; exact congrArg some e))
        have HNz : Hid (NO w.heap.size wz (.slice (some ⟨g, off, none⟩) l.length cap) l) := by
          rw [← hwz]
          have ha := block_apart HNO8.out HBox8.out (by decide)
          exact own_keep HNO8.out fun g hg => setRow_other _ _ _ _ (fun e => ha (by rw [hg]; exact congrArg some e))
        have HWz : Hid (x8.setRow w.heap.size (clC (.slice (some ⟨g, off, none⟩) l.length cap) (.slice aA x4.length aC) ⟨l, x1, y1, x2, y2, x4, y4, x3, y3, ⟨xh5, xa5⟩, ⟨xh6, xa6⟩, ⟨xh7, xa7⟩⟩).toArray = wz) := hwz
        clear hwz
        go_upto_region 15 with fail
        rw [HBN7.out, HWW7.out]
        clear HBN7 HWW7
        go_wp2_with (first | (refine wpList_load_mid rfl 25 (.tmp 19) rfl b5 0 rfl [.bool xh5, .int .i64 xa5] _ p5 Tryz.underlying25 rfl hct ?_) | (refine wpList_load_mid rfl 25 (.tmp 21) rfl b6 0 rfl [.bool xh6, .int .i64 xa6] _ p6 Tryz.underlying25 rfl hct ?_) | (refine wpList_load_mid rfl 25 (.tmp 23) rfl b7 0 rfl [.bool xh7, .int .i64 xa7] _ p7 Tryz.underlying25 rfl hct ?_) | (rw [HW8.out]; refine wpList_load_mid rfl 27 (.tmp 25) rfl v7.heap.size 0 rfl [.slice (some ⟨g, off, none⟩) l.length cap, .string ⟨x1.toArray⟩, .bool y1, .string ⟨x2.toArray⟩, .bool y2, .slice aA x4.length aC, .bool y4, .string ⟨x3.toArray⟩, .bool y3, .bool xh5, .int .i64 xa5, .bool xh6, .int .i64 xa6, .bool xh7, .int .i64 xa7] _ p8 Tryz.underlying27 rfl hcl ?_) | (refine wpList_store_row rfl 27 (.tmp 2) (.tmp 121) rfl w.heap.size (clC (.slice (some ⟨g, off, none⟩) l.length cap) (.slice aA x4.length aC) ⟨l, x1, y1, x2, y2, x4, y4, x3, y3, ⟨xh5, xa5⟩, ⟨xh6, xa6⟩, ⟨xh7, xa7⟩⟩).toArray rfl rfl 27 (clC (.slice none 0 0) (.slice none 0 0) cm0).toArray HBox8.out hgi rfl (by simp [clC, Value.oneCell']) ?_; rw [HWz.out]; clear HWz hgi))
        (try simp only [Exit.inBlock, Exit.then])
        refine bodyPost_ret (v := .tuple #[clV (.slice (some ⟨g, off, none⟩) l.length cap) (.slice aA x4.length aC) ⟨l, x1, y1, x2, y2, x4, y4, x3, y3, ⟨xh5, xa5⟩, ⟨xh6, xa6⟩, ⟨xh7, xa7⟩⟩, .int .i64 0]) (results_cl2 rfl _ _ w.heap.size _ _ _ _ rfl rfl HBz.out) rfl ⟨⟨(.slice (some ⟨g, off, none⟩) l.length cap), (.slice aA x4.length aC), ?_, ?_, ?_⟩, Hz.out⟩
        · rw [HX1.out]; rfl
        · rw [HX1.out]; exact HNz.out
        · rw [HX1.out]; exact HOz.out
    · have q7 : (K != 7) = true := by simpa using h7
      have HX : Hid (R = (cm0, 130)) := by show _ = _; rw [HP2.out]; exact if_pos h7
      clear HP2 h7 HN HNO HOK HA
      obtain ⟨wz, hwz⟩ : ∃ wz, w1.setRow w.heap.size (clC (.slice none 0 0) (.slice none 0 0) cm0).toArray = wz := ⟨_, rfl⟩
      have HBz : Hid (Bl 27 wz w.heap.size (clC (.slice none 0 0) (.slice none 0 0) cm0)) := by rw [← hwz]; exact set_bl2 HBox1.out
      have Hz : Hid (Below w.heap.size w wz) := by rw [← hwz]; exact setRow_below2 _ HB1.out (Nat.le_refl _)
      have HWz : Hid (w1.setRow w.heap.size (clC (.slice none 0 0) (.slice none 0 0) cm0).toArray = wz) := hwz
      clear hwz
      have hgi : (Tryz.prog.info? 27).map (·.size) = some 15 := by kernel_rfl
      go_wp2_with (refine wpList_store_row rfl 27 (.tmp 2) (.tmp 41) rfl w.heap.size (clC (.slice none 0 0) (.slice none 0 0) cm0).toArray rfl rfl 27 (clC (.slice none 0 0) (.slice none 0 0) cm0).toArray HBox1.out hgi rfl (by simp [clC, cm0, Value.oneCell']) ?_; rw [HWz.out]; clear HWz hgi)
      (try simp only [Exit.inBlock, Exit.then])
      refine bodyPost_ret (v := .tuple #[clV (.slice none 0 0) (.slice none 0 0) cm0, .int .i64 130]) (results_cl2 rfl _ _ w.heap.size _ _ _ _ rfl rfl HBz.out) rfl ⟨⟨.slice none 0 0, .slice none 0 0, ?_, ?_, ?_⟩, Hz.out⟩
      · first | (rw [HX.out]; done) | (rw [HX.out]; rfl)
      · rw [HX.out]; exact World.ownsRow_nil _ _ _ _
      · rw [HX.out]; exact World.ownsRow_nil _ _ _ _
  · have HX : Hid (R = (cm0, c)) := by show _ = _; rw [HP.out, if_pos h0]
    have qc : ((c : Int) == 0) = false := by simp; omega
    have qc' : ((c : Int) != 0) = true := by simp; omega
    clear HP HN h0 HNO HV
    obtain ⟨wz, hwz⟩ : ∃ wz, w1.setRow w.heap.size (clC (.slice none 0 0) (.slice none 0 0) cm0).toArray = wz := ⟨_, rfl⟩
    have HBz : Hid (Bl 27 wz w.heap.size (clC (.slice none 0 0) (.slice none 0 0) cm0)) := by rw [← hwz]; exact set_bl2 HBox1.out
    have Hz : Hid (Below w.heap.size w wz) := by rw [← hwz]; exact setRow_below2 _ HB1.out (Nat.le_refl _)
    have HWz : Hid (w1.setRow w.heap.size (clC (.slice none 0 0) (.slice none 0 0) cm0).toArray = wz) := hwz
    clear hwz
    have hgi : (Tryz.prog.info? 27).map (·.size) = some 15 := by kernel_rfl
    go_wp2_with (refine wpList_store_row rfl 27 (.tmp 2) (.tmp 34) rfl w.heap.size (clC (.slice none 0 0) (.slice none 0 0) cm0).toArray rfl rfl 27 (clC (.slice none 0 0) (.slice none 0 0) cm0).toArray HBox1.out hgi rfl (by simp [clC, cm0, Value.oneCell']) ?_; rw [HWz.out]; clear HWz hgi)
    (try simp only [Exit.inBlock, Exit.then])
    refine bodyPost_ret (v := .tuple #[clV (.slice none 0 0) (.slice none 0 0) cm0, .int .i64 (c : Int)]) (results_cl2 rfl _ _ w.heap.size _ _ _ _ rfl rfl HBz.out) rfl ⟨⟨.slice none 0 0, .slice none 0 0, ?_, ?_, ?_⟩, Hz.out⟩
    · first | (rw [HX.out]; done) | (rw [HX.out]; rfl)
    · rw [HX.out]; exact World.ownsRow_nil _ _ _ _
    · rw [HX.out]; exact World.ownsRow_nil _ _ _ _

end Go.Proofs.YtjaopeenkbcjcaaGreatDoor
