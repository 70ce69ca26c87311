import Derived.Test.YtjaopeenkbcjcaaCp
namespace Go.Proofs.Ytjaopeenkbcjcaa
open Go.RowKit

/-- What stands while the document's Open reckons: the claims, the window that is answered, the two numbers. -/
structure OpS (w : World) (bw bf bt : Nat) (cl : List Value) (wx : World) (F T : Int) : Prop where
  bel : Below w.heap.size w wx
  cl : Bl 27 wx w.heap.size cl
  wn : Bl 32 wx bw (wnC ⟨false, 0, 0⟩)
  fr : Bl 45 wx bf (farC F)
  tn : Bl 45 wx bt (farC T)
theorem OpS.below {w wx wy : World} {bw bf bt : Nat} {cl : List Value} {F T : Int} (h : OpS w bw bf bt cl wx F T) (hb : Below wx.heap.size wx wy) : OpS w bw bf bt cl wy F T :=
  ⟨h.bel.trans (hb.mono h.bel.size), h.cl.below hb h.cl.lt, h.wn.below hb h.wn.lt, h.fr.below hb h.fr.lt, h.tn.below hb h.tn.lt⟩
theorem OpS.drew {w wx : World} {bw bf bt : Nat} {cl : List Value} {F T : Int} (h : OpS w bw bf bt cl wx F T) : OpS w bw bf bt cl wx.drew F T := ⟨below_drewN h.bel 1, h.cl, h.wn, h.fr, h.tn⟩
theorem bl_other2 {t : TypeId} {w : World} {b c : Nat} {vs : List Value} {new : Array Value} (h : Bl t w b vs) (hne : b ≠ c) : Bl t (w.setRow c new) b vs := (setRow_other w c b _ hne).trans h
theorem OpS.setF {w wx : World} {bw bf bt : Nat} {cl : List Value} {F T : Int} (h : OpS w bw bf bt cl wx F T) (G : Int) (h1 : w.heap.size < bw) (h2 : bw < bf) (h3 : bf < bt) : OpS w bw bf bt cl (wx.setRow bf (farC G).toArray) G T :=
  ⟨setRow_below2 _ h.bel (by omega), bl_other2 h.cl (by omega), bl_other2 h.wn (by omega), set_bl2 h.fr, bl_other2 h.tn (by omega)⟩
theorem OpS.setT {w wx : World} {bw bf bt : Nat} {cl : List Value} {F T : Int} (h : OpS w bw bf bt cl wx F T) (G : Int) (h1 : w.heap.size < bw) (h2 : bw < bf) (h3 : bf < bt) : OpS w bw bf bt cl (wx.setRow bt (farC G).toArray) F G :=
  ⟨setRow_below2 _ h.bel (by omega), bl_other2 h.cl (by omega), bl_other2 h.wn (by omega), bl_other2 h.fr (by omega), set_bl2 h.tn⟩
/-- The document's ends of the window. -/
def toD (eh : Bool) (ea l : Int) : Int := if (eh && decide (ea + (l - 1) < 9223372036854775807)) = true then ea + (l - 1) else 9223372036854775807
def frD (h : Bool) (a l F : Int) : Int := if (h && decide (F < a + -l)) = true then a + -l else F
theorem open_doc {eh nh ih : Bool} {ea na ia l : Int} (hl : 0 ≤ l ∧ l ≤ 600) (_he : I64 ea) (hn : I64 na) (_hi : I64 ia) :
    openF ⟨eh, ea⟩ ⟨nh, na⟩ ⟨ih, ia⟩ l = if toD eh ea l < frD ih ia l (frD nh na l (-9223372036854775808)) then (⟨true, 0, 0⟩, 0) else (⟨false, frD ih ia l (frD nh na l (-9223372036854775808)), toD eh ea l⟩, 0) := by
  unfold I64 at *
  have hf : ∀ (h : Bool) (a : Int), (-9223372036854775808 ≤ a ∧ a ≤ 9223372036854775807) → -9223372036854775808 ≤ fstF ⟨h, a⟩ l ∧ fstF ⟨h, a⟩ l = frD h a l (-9223372036854775808) := fun h a ha => by
    unfold fstF frD
    cases h
    · simp
    · simp only [Bool.true_eq_false, false_or, Bool.true_and, decide_eq_true_eq]
      split <;> split <;> omega
  have h2 : max (fstF ⟨nh, na⟩ l) (fstF ⟨ih, ia⟩ l) = frD ih ia l (frD nh na l (-9223372036854775808)) := by
    rw [← (hf nh na hn).2]
    have h3 := (hf nh na hn).1
    generalize fstF ⟨nh, na⟩ l = F at *
    unfold frD fstF
    cases ih
    · simp; omega
    · simp only [Bool.true_eq_false, false_or, Bool.true_and, decide_eq_true_eq]
      split <;> split <;> omega
  have h4 := (hf nh na hn).1
  unfold openF
  rw [if_neg (by omega), h2]
  have h5 : -9223372036854775808 ≤ frD ih ia l (frD nh na l (-9223372036854775808)) := by rw [← h2]; omega
  generalize frD ih ia l (frD nh na l (-9223372036854775808)) = F at *
  cases eh
  · have a : lstF ⟨false, ea⟩ l = some 9223372036854775807 := by unfold lstF; exact if_pos (Or.inl rfl)
    have b : toD false ea l = 9223372036854775807 := by unfold toD; simp
    rw [a, b]
  · by_cases h6 : 9223372036854775807 - l < ea
    · have a : lstF ⟨true, ea⟩ l = some 9223372036854775807 := by unfold lstF; exact if_pos (Or.inr h6)
      have b : toD true ea l = 9223372036854775807 := by unfold toD; exact if_neg (by simp; omega)
      rw [a, b]
    · have b : toD true ea l = ea + (l - 1) := by unfold toD; exact if_pos (by simp; omega)
      by_cases h7 : ea + l = -9223372036854775808
      · have a : lstF ⟨true, ea⟩ l = none := by unfold lstF; rw [if_neg (by simp; omega)]; exact if_pos h7
        rw [a, b, if_pos (by omega)]
      · have a : lstF ⟨true, ea⟩ l = some (ea + (l - 1)) := by unfold lstF; rw [if_neg (by simp; omega), if_neg h7]; show some (ea + l - 1) = _; congr 1; omega
        rw [a, b]
theorem frD_b {h : Bool} {a l F : Int} (hl : 0 ≤ l ∧ l ≤ 600) (ha : I64 a) (hF : I64 F) : I64 (frD h a l F) := by
  unfold I64 at *
  unfold frD
  split
  · rename_i hh
    simp only [Bool.and_eq_true, decide_eq_true_eq] at hh
    omega
  · exact hF
theorem toD_b {h : Bool} {a l : Int} (_hl : 0 ≤ l ∧ l ≤ 600) (_ha : I64 a) : toD h a l ≤ 9223372036854775807 := by
  unfold I64 at *
  unfold toD
  split
  · rename_i hh
    simp only [Bool.and_eq_true, decide_eq_true_eq] at hh
    omega
  · omega
/-- A number of two words that fits into one. -/
theorem far_back {x : Int} (h : I64 x) : wrap64 (wrap64 (fhi x * 4294967296) + flo x) = x := by
  unfold I64 at h
  unfold fhi flo
  simp only [wrap64]
  omega

set_option maxRecDepth 100000 in
set_option maxHeartbeats 8000000 in
theorem ropen_any (x0 x1 x2 x3 x4 x5 x6 x7 x8 : Value) (e n i : Tm) (l : Int) (w : World) (he : I64 e.at_) (hn : I64 n.at_) (hi : I64 i.at_) :
    Calls Try.prog 7 #[clW x0 x1 x2 x3 x4 x5 x6 x7 x8 e n i, .int .i64 l] w fun r w' => r = .returned (.tuple #[wnV (openF e n i l).1, .int .i64 ((openF e n i l).2 : Nat)]) ∧ Below w.heap.size w w' := by
  unfold clW
  obtain ⟨V, hV⟩ : ∃ V : World, w.alloc (.cells (clC9 x0 x1 x2 x3 x4 x5 x6 x7 x8 e n i).toArray 27) = V := ⟨_, rfl⟩
  have hBV : Below w.heap.size w V := by rw [← hV]; exact alloc_below _ _
  have hbl : Bl 27 V w.heap.size (clC9 x0 x1 x2 x3 x4 x5 x6 x7 x8 e n i) := by rw [← hV]; exact alloc_bl _ _ _
  have hsv : V.heap.size = w.heap.size + 1 := by rw [← hV]; exact alloc_size _ _
  obtain ⟨U, hU⟩ : ∃ U : World, V.alloc (.cells (wnC ⟨false, 0, 0⟩).toArray 32) = U := ⟨_, rfl⟩
  have hBU : Below V.heap.size V U := by rw [← hU]; exact alloc_below _ _
  have hwn : Bl 32 U V.heap.size (wnC ⟨false, 0, 0⟩) := by rw [← hU]; exact alloc_bl _ _ _
  obtain ⟨bw, hbw⟩ : ∃ b, w.heap.size + 1 = b := ⟨_, rfl⟩
  rw [hsv, hbw] at hwn
  have hbl2 : Bl 27 U w.heap.size (clC9 x0 x1 x2 x3 x4 x5 x6 x7 x8 e n i) := hbl.below hBU hbl.lt
  have hBUw : Below w.heap.size w U := hBV.trans (hBU.mono hBV.size)
  have HWB : Hid (w.heap.size + 1 = bw) := hbw
  have HUU : Hid ((w.alloc (.cells #[x0, x1, x2, x3, x4, x5, x6, x7, x8, .bool e.has, .int .i64 e.at_, .bool n.has, .int .i64 n.at_, .bool i.has, .int .i64 i.at_] 27)).alloc (Obj.cells #[.bool false, .int .i64 0, .int .i64 0] 32) = U) := by
    show _ = _
    rw [← hU, ← hV]
    rfl
  clear hV hU hsv hBV hBU hbl V
  by_cases hl : 0 ≤ l ∧ l ≤ 600
  · obtain ⟨eh, ea⟩ := e
    obtain ⟨nh, na⟩ := n
    obtain ⟨ih, ia⟩ := i
    dsimp only at *
    have h0 : 0 ≤ l := hl.1
    have h6 : l ≤ 600 := hl.2
    have hneg : IntKind.i64.wrap (-l) = -l := by rw [IntKind.wrap_i64]; omega
    have hsub : IntKind.i64.wrap (l - 1) = l - 1 := by rw [IntKind.wrap_i64]; omega
    have q0 : decide (l < 0) = false := decide_eq_false (by omega)
    have q6 : decide (l > 600) = false := decide_eq_false (by omega)
    have HE : Hid (I64 ea) := he
    have HN : Hid (I64 na) := hn
    have HI : Hid (I64 ia) := hi
    have HOD : Hid (openF ⟨eh, ea⟩ ⟨nh, na⟩ ⟨ih, ia⟩ l = _) := open_doc hl he hn hi
    have HFB : Hid (I64 (frD ih ia l (frD nh na l (-9223372036854775808)))) := frD_b hl hi (frD_b hl hn (by unfold I64; omega))
    have HTB : Hid (toD eh ea l ≤ 9223372036854775807) := toD_b hl he
    have CF := rfar_any (-9223372036854775808) 0 U (by unfold I64; omega) (by omega) (by omega)
    rw [Int.add_zero] at CF
    have HCT : Hid (∀ wq, Calls Try.prog 14 #[.int .i64 9223372036854775807, .int .i64 0] wq fun e w' => e = .returned (farV 9223372036854775807) ∧ Below wq.heap.size wq w') := fun wq => by
      have := rfar_any 9223372036854775807 0 wq (by unfold I64; omega) (by omega) (by omega)
      rw [Int.add_zero] at this
      exact this
    have HCl : Hid (Bl 27 U w.heap.size (clC9 x0 x1 x2 x3 x4 x5 x6 x7 x8 ⟨eh, ea⟩ ⟨nh, na⟩ ⟨ih, ia⟩)) := hbl2
    have HWn : Hid (Bl 32 U bw (wnC ⟨false, 0, 0⟩)) := hwn
    have HBU : Hid (Below w.heap.size w U) := hBUw
    clear he hn hi hl hbl2 hwn hBUw hbw
    generalize hF0 : (-9223372036854775808 : Int) = F0 at CF HOD HFB
    go_enter Try.func7, Try.ntmps7
    rw [hF0]
    go_wp2_with fail
    rw [HUU.out, HWB.out]
    clear HUU
    refine CF.mono ?_
    clear CF
    rintro r w1 ⟨rfl, hB1⟩
    unfold farV
    have HB1 : Hid (Below U.heap.size U w1) := hB1
    clear hB1
    have CT : ∀ wq, Calls Try.prog 14 #[.int .i64 9223372036854775807, .int .i64 0] wq fun e w' => e = .returned (farV 9223372036854775807) ∧ Below wq.heap.size wq w' := HCT.out
    clear HCT
    go_wp2_with fail
    refine (CT _).mono ?_
    clear CT
    rintro r w3 ⟨rfl, hB3⟩
    unfold farV
    have HB3 : Hid (Below (w1.alloc (.cells #[.int .i64 (fhi F0), .int .i64 (flo F0)] 45)).heap.size (w1.alloc (.cells #[.int .i64 (fhi F0), .int .i64 (flo F0)] 45)) w3) := hB3
    clear hB3
    obtain ⟨W, hW⟩ : ∃ W : World, w3.alloc (.cells #[.int .i64 (fhi 9223372036854775807), .int .i64 (flo 9223372036854775807)] 45) = W := ⟨_, rfl⟩
    obtain ⟨bf, hbf⟩ : ∃ b, w1.heap.size = b := ⟨_, rfl⟩
    obtain ⟨bt, hbt⟩ : ∃ b, w3.heap.size = b := ⟨_, rfl⟩
    have HBF : Hid (w1.heap.size = bf) := hbf
    have HBT : Hid (w3.heap.size = bt) := hbt
    have HW : Hid (w3.alloc (.cells #[.int .i64 (fhi 9223372036854775807), .int .i64 (flo 9223372036854775807)] 45) = W) := hW
    have s1 := HB1.out.size
    have s2 := HB3.out.size
    rw [alloc_size] at s2
    have s3 := HWn.out.lt
    have s4 := HCl.out.lt
    have hA1 : Below w1.heap.size w1 (w1.alloc (.cells #[.int .i64 (fhi F0), .int .i64 (flo F0)] 45)) := alloc_below _ _
    have hA2 : Below U.heap.size U w3 := (HB1.out.trans (hA1.mono s1)).trans (HB3.out.mono (by rw [alloc_size]; omega))
    have hA3 : Below U.heap.size U W := by rw [← hW]; exact hA2.trans ((alloc_below _ _).mono hA2.size)
    have hA4 : Below w3.heap.size w3 W := by rw [← hW]; exact alloc_below _ _
    have HOS : Hid (OpS w bw bf bt (clC9 x0 x1 x2 x3 x4 x5 x6 x7 x8 ⟨eh, ea⟩ ⟨nh, na⟩ ⟨ih, ia⟩) W F0 9223372036854775807) := by
      refine ⟨HBU.out.trans (hA3.mono HBU.out.size), HCl.out.below hA3 HCl.out.lt, HWn.out.below hA3 HWn.out.lt, ?_, ?_⟩
      · have h := (alloc_bl w1 [.int .i64 (fhi F0), .int .i64 (flo F0)] 45)
        have h2 := h.below HB3.out h.lt
        rw [hbf] at h2
        exact h2.below hA4 h2.lt
      · have h := alloc_bl w3 [.int .i64 (fhi 9223372036854775807), .int .i64 (flo 9223372036854775807)] 45
        have hW2 : w3.alloc (.cells [Value.int .i64 (fhi 9223372036854775807), .int .i64 (flo 9223372036854775807)].toArray 45) = W := hW
        rw [hW2, hbt] at h
        exact h
    have HP : Hid (w.heap.size < bw ∧ bw < bf ∧ bf < bt) := by
      have := HWB.out
      have := HCl.out.lt
      exact ⟨by omega, by omega, by omega⟩
    clear hA1 hA2 hA3 hA4 s1 s2 s3 s4 hbf hbt hW HB3 HB1 HCl HWn HBU HWB
    go_upto_region 6 with fail
    rw [HBF.out, HBT.out, HW.out]
    clear HBF HBT HW
    clear hF0
    have HSS : Hid (∀ wq, OpS w bw bf bt (clC9 x0 x1 x2 x3 x4 x5 x6 x7 x8 ⟨eh, ea⟩ ⟨nh, na⟩ ⟨ih, ia⟩) wq F0 9223372036854775807 → (fun (w' : World) => w'.cell? ⟨w.heap.size, 9, none⟩ = some (.bool eh) ∧ w'.cell? ⟨w.heap.size, 10, none⟩ = some (.int .i64 ea) ∧ w'.cell? ⟨w.heap.size, 11, none⟩ = some (.bool nh) ∧ w'.cell? ⟨w.heap.size, 12, none⟩ = some (.int .i64 na) ∧ w'.cell? ⟨w.heap.size, 13, none⟩ = some (.bool ih) ∧ w'.cell? ⟨w.heap.size, 14, none⟩ = some (.int .i64 ia) ∧ w'.cell? ⟨bf, 0, none⟩ = some (.int .i64 (fhi F0)) ∧ w'.cell? ⟨bf, 1, none⟩ = some (.int .i64 (flo F0)) ∧ w'.cell? ⟨bt, 0, none⟩ = some (.int .i64 (fhi 9223372036854775807)) ∧ w'.cell? ⟨bt, 1, none⟩ = some (.int .i64 (flo 9223372036854775807))) wq) := (fun wq (hq : OpS w bw bf bt (clC9 x0 x1 x2 x3 x4 x5 x6 x7 x8 ⟨eh, ea⟩ ⟨nh, na⟩ ⟨ih, ia⟩) wq F0 9223372036854775807) => (⟨hq.cl.cell 9 (by simp [clC9]), hq.cl.cell 10 (by simp [clC9]), hq.cl.cell 11 (by simp [clC9]), hq.cl.cell 12 (by simp [clC9]), hq.cl.cell 13 (by simp [clC9]), hq.cl.cell 14 (by simp [clC9]), hq.fr.cell 0 (by simp [farC]), hq.fr.cell 1 (by simp [farC]), hq.tn.cell 0 (by simp [farC]), hq.tn.cell 1 (by simp [farC])⟩ : (fun (w' : World) => w'.cell? ⟨w.heap.size, 9, none⟩ = some (.bool eh) ∧ w'.cell? ⟨w.heap.size, 10, none⟩ = some (.int .i64 ea) ∧ w'.cell? ⟨w.heap.size, 11, none⟩ = some (.bool nh) ∧ w'.cell? ⟨w.heap.size, 12, none⟩ = some (.int .i64 na) ∧ w'.cell? ⟨w.heap.size, 13, none⟩ = some (.bool ih) ∧ w'.cell? ⟨w.heap.size, 14, none⟩ = some (.int .i64 ia) ∧ w'.cell? ⟨bf, 0, none⟩ = some (.int .i64 (fhi F0)) ∧ w'.cell? ⟨bf, 1, none⟩ = some (.int .i64 (flo F0)) ∧ w'.cell? ⟨bt, 0, none⟩ = some (.int .i64 (fhi 9223372036854775807)) ∧ w'.cell? ⟨bt, 1, none⟩ = some (.int .i64 (flo 9223372036854775807))) wq))
    go_cut [31] from 19 to 31 (fun s wx => s = .bool (eh && decide (ea + (l - 1) < 9223372036854775807)) ∧ Hid (OpS w bw bf bt (clC9 x0 x1 x2 x3 x4 x5 x6 x7 x8 ⟨eh, ea⟩ ⟨nh, na⟩ ⟨ih, ia⟩) wx F0 9223372036854775807))
    case first =>
      cases eh
      · skip
        refine wp_region_K 12 (fun (w' : World) => w'.cell? ⟨w.heap.size, 9, none⟩ = some (.bool false) ∧ w'.cell? ⟨w.heap.size, 10, none⟩ = some (.int .i64 ea) ∧ w'.cell? ⟨w.heap.size, 11, none⟩ = some (.bool nh) ∧ w'.cell? ⟨w.heap.size, 12, none⟩ = some (.int .i64 na) ∧ w'.cell? ⟨w.heap.size, 13, none⟩ = some (.bool ih) ∧ w'.cell? ⟨w.heap.size, 14, none⟩ = some (.int .i64 ia) ∧ w'.cell? ⟨bf, 0, none⟩ = some (.int .i64 (fhi F0)) ∧ w'.cell? ⟨bf, 1, none⟩ = some (.int .i64 (flo F0)) ∧ w'.cell? ⟨bt, 0, none⟩ = some (.int .i64 (fhi 9223372036854775807)) ∧ w'.cell? ⟨bt, 1, none⟩ = some (.int .i64 (flo 9223372036854775807))) (by kernel_rfl) ?_
        have hHeld : ((fun (w' : World) => w'.cell? ⟨w.heap.size, 9, none⟩ = some (.bool false) ∧ w'.cell? ⟨w.heap.size, 10, none⟩ = some (.int .i64 ea) ∧ w'.cell? ⟨w.heap.size, 11, none⟩ = some (.bool nh) ∧ w'.cell? ⟨w.heap.size, 12, none⟩ = some (.int .i64 na) ∧ w'.cell? ⟨w.heap.size, 13, none⟩ = some (.bool ih) ∧ w'.cell? ⟨w.heap.size, 14, none⟩ = some (.int .i64 ia) ∧ w'.cell? ⟨bf, 0, none⟩ = some (.int .i64 (fhi F0)) ∧ w'.cell? ⟨bf, 1, none⟩ = some (.int .i64 (flo F0)) ∧ w'.cell? ⟨bt, 0, none⟩ = some (.int .i64 (fhi 9223372036854775807)) ∧ w'.cell? ⟨bt, 1, none⟩ = some (.int .i64 (flo 9223372036854775807)))) (World.drew _) := HSS.out _ HOS.out.drew
        refine wpAnyK_take0 0 (v := ?v21) rfl (by kernel_rfl) (fun _ _ _ h => h) (Or.inl ⟨by rfl, ?hy21⟩) (fun _ => hHeld) ?_
        case hy21 => (intro w hSw; go_simp; try with_reducible rfl)
        try simp only [Act.put, List.setIfInBounds_toArray, List.set_cons_zero, List.set_cons_succ]
        refine wpAnyK_take0 1 (v := ?v22) rfl (by kernel_rfl) (fun _ _ _ h => h) (Or.inl ⟨by rfl, ?hy22⟩) (fun _ => hHeld) ?_
        case hy22 => (intro w hSw; go_simp; try with_reducible rfl)
        try simp only [Act.put, List.setIfInBounds_toArray, List.set_cons_zero, List.set_cons_succ]
        refine wpAnyK_take 2 [3, 12] (v := ?v23) rfl (by kernel_rfl) (fun _ _ _ h => h) (Or.inl ⟨by rfl, ?hy23⟩) hHeld ?_
        case hy23 => (intro w hSw; (try dsimp only at hSw); go_simp; try with_reducible rfl)
        try simp only [Act.put, List.setIfInBounds_toArray, List.set_cons_zero, List.set_cons_succ]
        refine wpAnyK_take0 3 (v := ?v24) rfl (by kernel_rfl) (fun _ _ _ h => h) (Or.inl ⟨by rfl, ?hy24⟩) (fun _ => hHeld) ?_
        case hy24 => (intro w hSw; go_simp; try with_reducible rfl)
        try simp only [Act.put, List.setIfInBounds_toArray, List.set_cons_zero, List.set_cons_succ]
        refine wpAnyK_take0 4 (v := undef) rfl (by kernel_rfl) (fun _ _ _ h => h) (Or.inr ⟨by rfl, rfl⟩) (fun _ => hHeld) ?_
        try simp only [Act.put, List.setIfInBounds_toArray, List.set_cons_zero, List.set_cons_succ]
        refine wpAnyK_take0 5 (v := undef) rfl (by kernel_rfl) (fun _ _ _ h => h) (Or.inr ⟨by rfl, rfl⟩) (fun _ => hHeld) ?_
        try simp only [Act.put, List.setIfInBounds_toArray, List.set_cons_zero, List.set_cons_succ]
        refine wpAnyK_take0 6 (v := undef) rfl (by kernel_rfl) (fun _ _ _ h => h) (Or.inr ⟨by rfl, rfl⟩) (fun _ => hHeld) ?_
        try simp only [Act.put, List.setIfInBounds_toArray, List.set_cons_zero, List.set_cons_succ]
        refine wpAnyK_take0 7 (v := undef) rfl (by kernel_rfl) (fun _ _ _ h => h) (Or.inr ⟨by rfl, rfl⟩) (fun _ => hHeld) ?_
        try simp only [Act.put, List.setIfInBounds_toArray, List.set_cons_zero, List.set_cons_succ]
        refine wpAnyK_take0 8 (v := undef) rfl (by kernel_rfl) (fun _ _ _ h => h) (Or.inr ⟨by rfl, rfl⟩) (fun _ => hHeld) ?_
        try simp only [Act.put, List.setIfInBounds_toArray, List.set_cons_zero, List.set_cons_succ]
        refine wpAnyK_take0 10 (v := undef) rfl (by kernel_rfl) (fun _ _ _ h => h) (Or.inr ⟨by rfl, rfl⟩) (fun _ => hHeld) ?_
        try simp only [Act.put, List.setIfInBounds_toArray, List.set_cons_zero, List.set_cons_succ]
        refine wpAnyK_step 9 rfl (by kernel_rfl) (fun K31 hK => ?_)
        go_simp
        refine hK.out _ _ (fun _ => hHeld) ?_
        clear hK K31
        try simp only [Act.put, List.setIfInBounds_toArray, List.set_cons_zero, List.set_cons_succ]
        refine wpAnyK_step 11 rfl (by kernel_rfl) (fun K32 hK => ?_)
        go_simp
        refine hK.out _ _ (fun _ => hHeld) ?_
        clear hK K32
        try simp only [Act.put, List.setIfInBounds_toArray, List.set_cons_zero, List.set_cons_succ]
        refine wpAnyK_step 12 rfl (by kernel_rfl) (fun K33 hK => ?_)
        go_simp
        refine hK.out _ _ (fun h => nomatch (h.symm.trans (show _ = true by kernel_rfl))) ?_
        clear hK K33
        try simp only [Act.put, List.setIfInBounds_toArray, List.set_cons_zero, List.set_cons_succ]
        refine wpAnyK_done (by kernel_rfl) ?_ _
        clear hHeld
        go_wp2
        go_meet
        exact ⟨rfl, HOS.out.drew⟩
      · skip
        refine wp_region_K 12 (fun (w' : World) => w'.cell? ⟨w.heap.size, 9, none⟩ = some (.bool true) ∧ w'.cell? ⟨w.heap.size, 10, none⟩ = some (.int .i64 ea) ∧ w'.cell? ⟨w.heap.size, 11, none⟩ = some (.bool nh) ∧ w'.cell? ⟨w.heap.size, 12, none⟩ = some (.int .i64 na) ∧ w'.cell? ⟨w.heap.size, 13, none⟩ = some (.bool ih) ∧ w'.cell? ⟨w.heap.size, 14, none⟩ = some (.int .i64 ia) ∧ w'.cell? ⟨bf, 0, none⟩ = some (.int .i64 (fhi F0)) ∧ w'.cell? ⟨bf, 1, none⟩ = some (.int .i64 (flo F0)) ∧ w'.cell? ⟨bt, 0, none⟩ = some (.int .i64 (fhi 9223372036854775807)) ∧ w'.cell? ⟨bt, 1, none⟩ = some (.int .i64 (flo 9223372036854775807))) (by kernel_rfl) ?_
        have hHeld : ((fun (w' : World) => w'.cell? ⟨w.heap.size, 9, none⟩ = some (.bool true) ∧ w'.cell? ⟨w.heap.size, 10, none⟩ = some (.int .i64 ea) ∧ w'.cell? ⟨w.heap.size, 11, none⟩ = some (.bool nh) ∧ w'.cell? ⟨w.heap.size, 12, none⟩ = some (.int .i64 na) ∧ w'.cell? ⟨w.heap.size, 13, none⟩ = some (.bool ih) ∧ w'.cell? ⟨w.heap.size, 14, none⟩ = some (.int .i64 ia) ∧ w'.cell? ⟨bf, 0, none⟩ = some (.int .i64 (fhi F0)) ∧ w'.cell? ⟨bf, 1, none⟩ = some (.int .i64 (flo F0)) ∧ w'.cell? ⟨bt, 0, none⟩ = some (.int .i64 (fhi 9223372036854775807)) ∧ w'.cell? ⟨bt, 1, none⟩ = some (.int .i64 (flo 9223372036854775807)))) (World.drew _) := HSS.out _ HOS.out.drew
        refine wpAnyK_take0 0 (v := ?v34) rfl (by kernel_rfl) (fun _ _ _ h => h) (Or.inl ⟨by rfl, ?hy34⟩) (fun _ => hHeld) ?_
        case hy34 => (intro w hSw; go_simp; try with_reducible rfl)
        try simp only [Act.put, List.setIfInBounds_toArray, List.set_cons_zero, List.set_cons_succ]
        refine wpAnyK_take0 1 (v := ?v35) rfl (by kernel_rfl) (fun _ _ _ h => h) (Or.inl ⟨by rfl, ?hy35⟩) (fun _ => hHeld) ?_
        case hy35 => (intro w hSw; go_simp; try with_reducible rfl)
        try simp only [Act.put, List.setIfInBounds_toArray, List.set_cons_zero, List.set_cons_succ]
        refine wpAnyK_take 2 [3, 12] (v := ?v36) rfl (by kernel_rfl) (fun _ _ _ h => h) (Or.inl ⟨by rfl, ?hy36⟩) hHeld ?_
        case hy36 => (intro w hSw; (try dsimp only at hSw); go_simp; try with_reducible rfl)
        try simp only [Act.put, List.setIfInBounds_toArray, List.set_cons_zero, List.set_cons_succ]
        refine wpAnyK_take0 3 (v := ?v37) rfl (by kernel_rfl) (fun _ _ _ h => h) (Or.inl ⟨by rfl, ?hy37⟩) (fun _ => hHeld) ?_
        case hy37 => (intro w hSw; go_simp; try with_reducible rfl)
        try simp only [Act.put, List.setIfInBounds_toArray, List.set_cons_zero, List.set_cons_succ]
        refine wpAnyK_take0 4 (v := ?v38) rfl (by kernel_rfl) (fun _ _ _ h => h) (Or.inl ⟨by rfl, ?hy38⟩) (fun _ => hHeld) ?_
        case hy38 => (intro w hSw; go_simp; try with_reducible rfl)
        try simp only [Act.put, List.setIfInBounds_toArray, List.set_cons_zero, List.set_cons_succ]
        refine wpAnyK_take0 5 (v := ?v39) rfl (by kernel_rfl) (fun _ _ _ h => h) (Or.inl ⟨by rfl, ?hy39⟩) (fun _ => hHeld) ?_
        case hy39 => (intro w hSw; go_simp; try with_reducible rfl)
        try simp only [Act.put, List.setIfInBounds_toArray, List.set_cons_zero, List.set_cons_succ]
        refine wpAnyK_take 6 [9, 11, 12] (v := ?v40) rfl (by kernel_rfl) (fun _ _ _ h => h) (Or.inl ⟨by rfl, ?hy40⟩) hHeld ?_
        case hy40 => (intro w hSw; (try dsimp only at hSw); go_simp; try with_reducible rfl)
        try simp only [Act.put, List.setIfInBounds_toArray, List.set_cons_zero, List.set_cons_succ]
        refine wpAnyK_take0 7 (v := ?v41) rfl (by kernel_rfl) (fun _ _ _ h => h) (Or.inl ⟨by rfl, ?hy41⟩) (fun _ => hHeld) ?_
        case hy41 => (intro w hSw; go_simp; try with_reducible rfl)
        try simp only [Act.put, List.setIfInBounds_toArray, List.set_cons_zero, List.set_cons_succ]
        refine wpAnyK_take0 8 (v := ?v42) rfl (by kernel_rfl) (fun _ _ _ h => h) (Or.inl ⟨by rfl, ?hy42⟩) (fun _ => hHeld) ?_
        case hy42 => (intro w hSw; go_simp; (try rw [hsub]); try with_reducible rfl)
        try simp only [Act.put, List.setIfInBounds_toArray, List.set_cons_zero, List.set_cons_succ]
        refine wpAnyK_take 10 [11, 12] (v := ?v43) rfl (by kernel_rfl) (fun _ _ _ h => h) (Or.inl ⟨by rfl, ?hy43⟩) hHeld ?_
        case hy43 => (intro w hSw; (try dsimp only at hSw); go_simp; try with_reducible rfl)
        try simp only [Act.put, List.setIfInBounds_toArray, List.set_cons_zero, List.set_cons_succ]
        refine wpAnyK_step 9 rfl (by kernel_rfl) (fun K44 hK => ?_)
        go_simp
        refine (rfar_any ea (l - 1) _ HE.out (by omega) (by omega)).mono ?_
        rintro r w5 ⟨rfl, hB5⟩
        have HO5 : Hid (OpS w bw bf bt (clC9 x0 x1 x2 x3 x4 x5 x6 x7 x8 ⟨true, ea⟩ ⟨nh, na⟩ ⟨ih, ia⟩) w5 F0 9223372036854775807) := HOS.out.drew.below hB5
        clear hB5
        unfold farV
        dsimp only
        refine hK.out _ _ ?hk44 ?_
        case hk44 => exact fun _ => HSS.out _ HO5.out
        clear hHeld hK K44
        have hHeld : ((fun (w' : World) => w'.cell? ⟨w.heap.size, 9, none⟩ = some (.bool true) ∧ w'.cell? ⟨w.heap.size, 10, none⟩ = some (.int .i64 ea) ∧ w'.cell? ⟨w.heap.size, 11, none⟩ = some (.bool nh) ∧ w'.cell? ⟨w.heap.size, 12, none⟩ = some (.int .i64 na) ∧ w'.cell? ⟨w.heap.size, 13, none⟩ = some (.bool ih) ∧ w'.cell? ⟨w.heap.size, 14, none⟩ = some (.int .i64 ia) ∧ w'.cell? ⟨bf, 0, none⟩ = some (.int .i64 (fhi F0)) ∧ w'.cell? ⟨bf, 1, none⟩ = some (.int .i64 (flo F0)) ∧ w'.cell? ⟨bt, 0, none⟩ = some (.int .i64 (fhi 9223372036854775807)) ∧ w'.cell? ⟨bt, 1, none⟩ = some (.int .i64 (flo 9223372036854775807)))) _ := HSS.out _ HO5.out
        try simp only [Act.put, List.setIfInBounds_toArray, List.set_cons_zero, List.set_cons_succ]
        refine wpAnyK_step 11 rfl (by kernel_rfl) (fun K45 hK => ?_)
        go_simp
        refine (rless_any (ea + (l - 1)) 9223372036854775807 _).mono ?_
        rintro r w6 ⟨rfl, hB6⟩
        have HO6 : Hid (OpS w bw bf bt (clC9 x0 x1 x2 x3 x4 x5 x6 x7 x8 ⟨true, ea⟩ ⟨nh, na⟩ ⟨ih, ia⟩) w6 F0 9223372036854775807) := HO5.out.below hB6
        clear hB6
        dsimp only
        refine hK.out _ _ ?hk45 ?_
        case hk45 => exact fun _ => HSS.out _ HO6.out
        clear hHeld hK K45
        have hHeld : ((fun (w' : World) => w'.cell? ⟨w.heap.size, 9, none⟩ = some (.bool true) ∧ w'.cell? ⟨w.heap.size, 10, none⟩ = some (.int .i64 ea) ∧ w'.cell? ⟨w.heap.size, 11, none⟩ = some (.bool nh) ∧ w'.cell? ⟨w.heap.size, 12, none⟩ = some (.int .i64 na) ∧ w'.cell? ⟨w.heap.size, 13, none⟩ = some (.bool ih) ∧ w'.cell? ⟨w.heap.size, 14, none⟩ = some (.int .i64 ia) ∧ w'.cell? ⟨bf, 0, none⟩ = some (.int .i64 (fhi F0)) ∧ w'.cell? ⟨bf, 1, none⟩ = some (.int .i64 (flo F0)) ∧ w'.cell? ⟨bt, 0, none⟩ = some (.int .i64 (fhi 9223372036854775807)) ∧ w'.cell? ⟨bt, 1, none⟩ = some (.int .i64 (flo 9223372036854775807)))) _ := HSS.out _ HO6.out
        try simp only [Act.put, List.setIfInBounds_toArray, List.set_cons_zero, List.set_cons_succ]
        refine wpAnyK_step 12 rfl (by kernel_rfl) (fun K46 hK => ?_)
        go_simp
        refine hK.out _ _ (fun h => nomatch (h.symm.trans (show _ = true by kernel_rfl))) ?_
        clear hK K46
        try simp only [Act.put, List.setIfInBounds_toArray, List.set_cons_zero, List.set_cons_succ]
        refine wpAnyK_done (by kernel_rfl) ?_ _
        clear hHeld
        go_wp2
        go_meet
        exact ⟨by simp, HO6.out⟩
    case rest =>
    obtain ⟨rfl, HOn⟩ := hcut
    clear HSS HOS
    have HOS := HOn
    clear HOn
    obtain ⟨b6, hb6⟩ : ∃ b, (eh && decide (ea + (l - 1) < 9223372036854775807)) = b := ⟨_, rfl⟩
    have Hb6 : Hid ((eh && decide (ea + (l - 1) < 9223372036854775807)) = b6) := hb6
    rw [hb6]
    clear hb6
    obtain ⟨T1, hn6⟩ : ∃ x : Int, (if b6 = true then (ea + (l - 1)) else 9223372036854775807) = x := ⟨_, rfl⟩
    have Hn6 : Hid ((if b6 = true then (ea + (l - 1)) else 9223372036854775807) = T1) := hn6
    clear hn6
    go_upto_if 31 with fail
    go_cut [] from 32 to 37 (fun wx => Hid (OpS w bw bf bt (clC9 x0 x1 x2 x3 x4 x5 x6 x7 x8 ⟨eh, ea⟩ ⟨nh, na⟩ ⟨ih, ia⟩) wx F0 T1))
    case first =>
      cases b6
      · have e : 9223372036854775807 = T1 := Hn6.out
        go_wp2
        go_meet
        rw [← e]
        exact HOS
      · have e : (ea + (l - 1)) = T1 := Hn6.out
        have CX := rfar_any ea (l - 1) wc HE.out (by omega) (by omega)
        have kk := HOS.out.cl.cell 10 (by simp [clC9])
        have kk2 : wc.cell? ⟨w.heap.size, 10, none⟩ = some (.int .i64 ea) := kk
        clear kk
        go_wp2_with fail
        refine CX.mono ?_
        clear CX kk2
        rintro r w7 ⟨rfl, hB7⟩
        have HO7 : Hid (OpS w bw bf bt (clC9 x0 x1 x2 x3 x4 x5 x6 x7 x8 ⟨eh, ea⟩ ⟨nh, na⟩ ⟨ih, ia⟩) w7 F0 9223372036854775807) := HOS.out.below hB7
        clear hB7 HOS
        obtain ⟨wz, hwz⟩ : ∃ wz, w7.setRow bt (farC (ea + (l - 1))).toArray = wz := ⟨_, rfl⟩
        have HZ : Hid (OpS w bw bf bt (clC9 x0 x1 x2 x3 x4 x5 x6 x7 x8 ⟨eh, ea⟩ ⟨nh, na⟩ ⟨ih, ia⟩) wz F0 T1) := by rw [← hwz, ← e]; exact HO7.out.setT _ HP.out.1 HP.out.2.1 HP.out.2.2
        have HWz : Hid (w7.setRow bt (farC (ea + (l - 1))).toArray = wz) := hwz
        have hgi : (Try.prog.info? 45).map (·.size) = some 2 := by kernel_rfl
        unfold farV
        clear hwz e Hn6
        go_wp2_with (refine wpList_store_row rfl 45 (.tmp 8) (.tmp 37) rfl bt (farC (ea + (l - 1))).toArray rfl rfl 45 (farC 9223372036854775807).toArray HO7.out.tn hgi rfl (by simp [farC, Value.oneCell']) ?_; rw [HWz.out]; clear HWz hgi)
        go_meet
        exact HZ
    case rest =>
    clear HOS
    have HOS := hcut
    clear hcut
    have HSS : Hid (∀ wq, OpS w bw bf bt (clC9 x0 x1 x2 x3 x4 x5 x6 x7 x8 ⟨eh, ea⟩ ⟨nh, na⟩ ⟨ih, ia⟩) wq F0 T1 → (fun (w' : World) => w'.cell? ⟨w.heap.size, 9, none⟩ = some (.bool eh) ∧ w'.cell? ⟨w.heap.size, 10, none⟩ = some (.int .i64 ea) ∧ w'.cell? ⟨w.heap.size, 11, none⟩ = some (.bool nh) ∧ w'.cell? ⟨w.heap.size, 12, none⟩ = some (.int .i64 na) ∧ w'.cell? ⟨w.heap.size, 13, none⟩ = some (.bool ih) ∧ w'.cell? ⟨w.heap.size, 14, none⟩ = some (.int .i64 ia) ∧ w'.cell? ⟨bf, 0, none⟩ = some (.int .i64 (fhi F0)) ∧ w'.cell? ⟨bf, 1, none⟩ = some (.int .i64 (flo F0)) ∧ w'.cell? ⟨bt, 0, none⟩ = some (.int .i64 (fhi T1)) ∧ w'.cell? ⟨bt, 1, none⟩ = some (.int .i64 (flo T1))) wq) := (fun wq (hq : OpS w bw bf bt (clC9 x0 x1 x2 x3 x4 x5 x6 x7 x8 ⟨eh, ea⟩ ⟨nh, na⟩ ⟨ih, ia⟩) wq F0 T1) => (⟨hq.cl.cell 9 (by simp [clC9]), hq.cl.cell 10 (by simp [clC9]), hq.cl.cell 11 (by simp [clC9]), hq.cl.cell 12 (by simp [clC9]), hq.cl.cell 13 (by simp [clC9]), hq.cl.cell 14 (by simp [clC9]), hq.fr.cell 0 (by simp [farC]), hq.fr.cell 1 (by simp [farC]), hq.tn.cell 0 (by simp [farC]), hq.tn.cell 1 (by simp [farC])⟩ : (fun (w' : World) => w'.cell? ⟨w.heap.size, 9, none⟩ = some (.bool eh) ∧ w'.cell? ⟨w.heap.size, 10, none⟩ = some (.int .i64 ea) ∧ w'.cell? ⟨w.heap.size, 11, none⟩ = some (.bool nh) ∧ w'.cell? ⟨w.heap.size, 12, none⟩ = some (.int .i64 na) ∧ w'.cell? ⟨w.heap.size, 13, none⟩ = some (.bool ih) ∧ w'.cell? ⟨w.heap.size, 14, none⟩ = some (.int .i64 ia) ∧ w'.cell? ⟨bf, 0, none⟩ = some (.int .i64 (fhi F0)) ∧ w'.cell? ⟨bf, 1, none⟩ = some (.int .i64 (flo F0)) ∧ w'.cell? ⟨bt, 0, none⟩ = some (.int .i64 (fhi T1)) ∧ w'.cell? ⟨bt, 1, none⟩ = some (.int .i64 (flo T1))) wq))
    go_upto_region 8 with fail
    go_cut [50] from 38 to 50 (fun s wx => s = .bool (nh && decide (F0 < na + -l)) ∧ Hid (OpS w bw bf bt (clC9 x0 x1 x2 x3 x4 x5 x6 x7 x8 ⟨eh, ea⟩ ⟨nh, na⟩ ⟨ih, ia⟩) wx F0 T1))
    case first =>
      cases nh
      · skip
        refine wp_region_K 12 (fun (w' : World) => w'.cell? ⟨w.heap.size, 9, none⟩ = some (.bool eh) ∧ w'.cell? ⟨w.heap.size, 10, none⟩ = some (.int .i64 ea) ∧ w'.cell? ⟨w.heap.size, 11, none⟩ = some (.bool false) ∧ w'.cell? ⟨w.heap.size, 12, none⟩ = some (.int .i64 na) ∧ w'.cell? ⟨w.heap.size, 13, none⟩ = some (.bool ih) ∧ w'.cell? ⟨w.heap.size, 14, none⟩ = some (.int .i64 ia) ∧ w'.cell? ⟨bf, 0, none⟩ = some (.int .i64 (fhi F0)) ∧ w'.cell? ⟨bf, 1, none⟩ = some (.int .i64 (flo F0)) ∧ w'.cell? ⟨bt, 0, none⟩ = some (.int .i64 (fhi T1)) ∧ w'.cell? ⟨bt, 1, none⟩ = some (.int .i64 (flo T1))) (by kernel_rfl) ?_
        have hHeld : ((fun (w' : World) => w'.cell? ⟨w.heap.size, 9, none⟩ = some (.bool eh) ∧ w'.cell? ⟨w.heap.size, 10, none⟩ = some (.int .i64 ea) ∧ w'.cell? ⟨w.heap.size, 11, none⟩ = some (.bool false) ∧ w'.cell? ⟨w.heap.size, 12, none⟩ = some (.int .i64 na) ∧ w'.cell? ⟨w.heap.size, 13, none⟩ = some (.bool ih) ∧ w'.cell? ⟨w.heap.size, 14, none⟩ = some (.int .i64 ia) ∧ w'.cell? ⟨bf, 0, none⟩ = some (.int .i64 (fhi F0)) ∧ w'.cell? ⟨bf, 1, none⟩ = some (.int .i64 (flo F0)) ∧ w'.cell? ⟨bt, 0, none⟩ = some (.int .i64 (fhi T1)) ∧ w'.cell? ⟨bt, 1, none⟩ = some (.int .i64 (flo T1)))) (World.drew _) := HSS.out _ HOS.out.drew
        refine wpAnyK_take0 0 (v := ?v47) rfl (by kernel_rfl) (fun _ _ _ h => h) (Or.inl ⟨by rfl, ?hy47⟩) (fun _ => hHeld) ?_
        case hy47 => (intro w hSw; go_simp; try with_reducible rfl)
        try simp only [Act.put, List.setIfInBounds_toArray, List.set_cons_zero, List.set_cons_succ]
        refine wpAnyK_take0 1 (v := ?v48) rfl (by kernel_rfl) (fun _ _ _ h => h) (Or.inl ⟨by rfl, ?hy48⟩) (fun _ => hHeld) ?_
        case hy48 => (intro w hSw; go_simp; try with_reducible rfl)
        try simp only [Act.put, List.setIfInBounds_toArray, List.set_cons_zero, List.set_cons_succ]
        refine wpAnyK_take 2 [3, 12] (v := ?v49) rfl (by kernel_rfl) (fun _ _ _ h => h) (Or.inl ⟨by rfl, ?hy49⟩) hHeld ?_
        case hy49 => (intro w hSw; (try dsimp only at hSw); go_simp; try with_reducible rfl)
        try simp only [Act.put, List.setIfInBounds_toArray, List.set_cons_zero, List.set_cons_succ]
        refine wpAnyK_take0 3 (v := ?v50) rfl (by kernel_rfl) (fun _ _ _ h => h) (Or.inl ⟨by rfl, ?hy50⟩) (fun _ => hHeld) ?_
        case hy50 => (intro w hSw; go_simp; try with_reducible rfl)
        try simp only [Act.put, List.setIfInBounds_toArray, List.set_cons_zero, List.set_cons_succ]
        refine wpAnyK_take0 4 (v := undef) rfl (by kernel_rfl) (fun _ _ _ h => h) (Or.inr ⟨by rfl, rfl⟩) (fun _ => hHeld) ?_
        try simp only [Act.put, List.setIfInBounds_toArray, List.set_cons_zero, List.set_cons_succ]
        refine wpAnyK_take0 5 (v := undef) rfl (by kernel_rfl) (fun _ _ _ h => h) (Or.inr ⟨by rfl, rfl⟩) (fun _ => hHeld) ?_
        try simp only [Act.put, List.setIfInBounds_toArray, List.set_cons_zero, List.set_cons_succ]
        refine wpAnyK_take0 6 (v := undef) rfl (by kernel_rfl) (fun _ _ _ h => h) (Or.inr ⟨by rfl, rfl⟩) (fun _ => hHeld) ?_
        try simp only [Act.put, List.setIfInBounds_toArray, List.set_cons_zero, List.set_cons_succ]
        refine wpAnyK_take0 7 (v := undef) rfl (by kernel_rfl) (fun _ _ _ h => h) (Or.inr ⟨by rfl, rfl⟩) (fun _ => hHeld) ?_
        try simp only [Act.put, List.setIfInBounds_toArray, List.set_cons_zero, List.set_cons_succ]
        refine wpAnyK_take0 8 (v := undef) rfl (by kernel_rfl) (fun _ _ _ h => h) (Or.inr ⟨by rfl, rfl⟩) (fun _ => hHeld) ?_
        try simp only [Act.put, List.setIfInBounds_toArray, List.set_cons_zero, List.set_cons_succ]
        refine wpAnyK_take0 9 (v := undef) rfl (by kernel_rfl) (fun _ _ _ h => h) (Or.inr ⟨by rfl, rfl⟩) (fun _ => hHeld) ?_
        try simp only [Act.put, List.setIfInBounds_toArray, List.set_cons_zero, List.set_cons_succ]
        refine wpAnyK_step 10 rfl (by kernel_rfl) (fun K57 hK => ?_)
        go_simp
        refine hK.out _ _ (fun _ => hHeld) ?_
        clear hK K57
        try simp only [Act.put, List.setIfInBounds_toArray, List.set_cons_zero, List.set_cons_succ]
        refine wpAnyK_step 11 rfl (by kernel_rfl) (fun K58 hK => ?_)
        go_simp
        refine hK.out _ _ (fun _ => hHeld) ?_
        clear hK K58
        try simp only [Act.put, List.setIfInBounds_toArray, List.set_cons_zero, List.set_cons_succ]
        refine wpAnyK_step 12 rfl (by kernel_rfl) (fun K59 hK => ?_)
        go_simp
        refine hK.out _ _ (fun h => nomatch (h.symm.trans (show _ = true by kernel_rfl))) ?_
        clear hK K59
        try simp only [Act.put, List.setIfInBounds_toArray, List.set_cons_zero, List.set_cons_succ]
        refine wpAnyK_done (by kernel_rfl) ?_ _
        clear hHeld
        go_wp2
        go_meet
        exact ⟨rfl, HOS.out.drew⟩
      · skip
        refine wp_region_K 12 (fun (w' : World) => w'.cell? ⟨w.heap.size, 9, none⟩ = some (.bool eh) ∧ w'.cell? ⟨w.heap.size, 10, none⟩ = some (.int .i64 ea) ∧ w'.cell? ⟨w.heap.size, 11, none⟩ = some (.bool true) ∧ w'.cell? ⟨w.heap.size, 12, none⟩ = some (.int .i64 na) ∧ w'.cell? ⟨w.heap.size, 13, none⟩ = some (.bool ih) ∧ w'.cell? ⟨w.heap.size, 14, none⟩ = some (.int .i64 ia) ∧ w'.cell? ⟨bf, 0, none⟩ = some (.int .i64 (fhi F0)) ∧ w'.cell? ⟨bf, 1, none⟩ = some (.int .i64 (flo F0)) ∧ w'.cell? ⟨bt, 0, none⟩ = some (.int .i64 (fhi T1)) ∧ w'.cell? ⟨bt, 1, none⟩ = some (.int .i64 (flo T1))) (by kernel_rfl) ?_
        have hHeld : ((fun (w' : World) => w'.cell? ⟨w.heap.size, 9, none⟩ = some (.bool eh) ∧ w'.cell? ⟨w.heap.size, 10, none⟩ = some (.int .i64 ea) ∧ w'.cell? ⟨w.heap.size, 11, none⟩ = some (.bool true) ∧ w'.cell? ⟨w.heap.size, 12, none⟩ = some (.int .i64 na) ∧ w'.cell? ⟨w.heap.size, 13, none⟩ = some (.bool ih) ∧ w'.cell? ⟨w.heap.size, 14, none⟩ = some (.int .i64 ia) ∧ w'.cell? ⟨bf, 0, none⟩ = some (.int .i64 (fhi F0)) ∧ w'.cell? ⟨bf, 1, none⟩ = some (.int .i64 (flo F0)) ∧ w'.cell? ⟨bt, 0, none⟩ = some (.int .i64 (fhi T1)) ∧ w'.cell? ⟨bt, 1, none⟩ = some (.int .i64 (flo T1)))) (World.drew _) := HSS.out _ HOS.out.drew
        refine wpAnyK_take0 0 (v := ?v60) rfl (by kernel_rfl) (fun _ _ _ h => h) (Or.inl ⟨by rfl, ?hy60⟩) (fun _ => hHeld) ?_
        case hy60 => (intro w hSw; go_simp; try with_reducible rfl)
        try simp only [Act.put, List.setIfInBounds_toArray, List.set_cons_zero, List.set_cons_succ]
        refine wpAnyK_take0 1 (v := ?v61) rfl (by kernel_rfl) (fun _ _ _ h => h) (Or.inl ⟨by rfl, ?hy61⟩) (fun _ => hHeld) ?_
        case hy61 => (intro w hSw; go_simp; try with_reducible rfl)
        try simp only [Act.put, List.setIfInBounds_toArray, List.set_cons_zero, List.set_cons_succ]
        refine wpAnyK_take 2 [3, 12] (v := ?v62) rfl (by kernel_rfl) (fun _ _ _ h => h) (Or.inl ⟨by rfl, ?hy62⟩) hHeld ?_
        case hy62 => (intro w hSw; (try dsimp only at hSw); go_simp; try with_reducible rfl)
        try simp only [Act.put, List.setIfInBounds_toArray, List.set_cons_zero, List.set_cons_succ]
        refine wpAnyK_take0 3 (v := ?v63) rfl (by kernel_rfl) (fun _ _ _ h => h) (Or.inl ⟨by rfl, ?hy63⟩) (fun _ => hHeld) ?_
        case hy63 => (intro w hSw; go_simp; try with_reducible rfl)
        try simp only [Act.put, List.setIfInBounds_toArray, List.set_cons_zero, List.set_cons_succ]
        refine wpAnyK_take 4 [11, 12] (v := ?v64) rfl (by kernel_rfl) (fun _ _ _ h => h) (Or.inl ⟨by rfl, ?hy64⟩) hHeld ?_
        case hy64 => (intro w hSw; (try dsimp only at hSw); go_simp; try with_reducible rfl)
        try simp only [Act.put, List.setIfInBounds_toArray, List.set_cons_zero, List.set_cons_succ]
        refine wpAnyK_take0 5 (v := ?v65) rfl (by kernel_rfl) (fun _ _ _ h => h) (Or.inl ⟨by rfl, ?hy65⟩) (fun _ => hHeld) ?_
        case hy65 => (intro w hSw; go_simp; try with_reducible rfl)
        try simp only [Act.put, List.setIfInBounds_toArray, List.set_cons_zero, List.set_cons_succ]
        refine wpAnyK_take0 6 (v := ?v66) rfl (by kernel_rfl) (fun _ _ _ h => h) (Or.inl ⟨by rfl, ?hy66⟩) (fun _ => hHeld) ?_
        case hy66 => (intro w hSw; go_simp; try with_reducible rfl)
        try simp only [Act.put, List.setIfInBounds_toArray, List.set_cons_zero, List.set_cons_succ]
        refine wpAnyK_take 7 [10, 11, 12] (v := ?v67) rfl (by kernel_rfl) (fun _ _ _ h => h) (Or.inl ⟨by rfl, ?hy67⟩) hHeld ?_
        case hy67 => (intro w hSw; (try dsimp only at hSw); go_simp; try with_reducible rfl)
        try simp only [Act.put, List.setIfInBounds_toArray, List.set_cons_zero, List.set_cons_succ]
        refine wpAnyK_take0 8 (v := ?v68) rfl (by kernel_rfl) (fun _ _ _ h => h) (Or.inl ⟨by rfl, ?hy68⟩) (fun _ => hHeld) ?_
        case hy68 => (intro w hSw; go_simp; try with_reducible rfl)
        try simp only [Act.put, List.setIfInBounds_toArray, List.set_cons_zero, List.set_cons_succ]
        refine wpAnyK_take0 9 (v := ?v69) rfl (by kernel_rfl) (fun _ _ _ h => h) (Or.inl ⟨by rfl, ?hy69⟩) (fun _ => hHeld) ?_
        case hy69 => (intro w hSw; go_simp; (try rw [hneg]); try with_reducible rfl)
        try simp only [Act.put, List.setIfInBounds_toArray, List.set_cons_zero, List.set_cons_succ]
        refine wpAnyK_step 10 rfl (by kernel_rfl) (fun K70 hK => ?_)
        go_simp
        refine (rfar_any na (-l) _ HN.out (by omega) (by omega)).mono ?_
        rintro r w5 ⟨rfl, hB5⟩
        have HO5 : Hid (OpS w bw bf bt (clC9 x0 x1 x2 x3 x4 x5 x6 x7 x8 ⟨eh, ea⟩ ⟨true, na⟩ ⟨ih, ia⟩) w5 F0 T1) := HOS.out.drew.below hB5
        clear hB5
        unfold farV
        dsimp only
        refine hK.out _ _ ?hk70 ?_
        case hk70 => exact fun _ => HSS.out _ HO5.out
        clear hHeld hK K70
        have hHeld : ((fun (w' : World) => w'.cell? ⟨w.heap.size, 9, none⟩ = some (.bool eh) ∧ w'.cell? ⟨w.heap.size, 10, none⟩ = some (.int .i64 ea) ∧ w'.cell? ⟨w.heap.size, 11, none⟩ = some (.bool true) ∧ w'.cell? ⟨w.heap.size, 12, none⟩ = some (.int .i64 na) ∧ w'.cell? ⟨w.heap.size, 13, none⟩ = some (.bool ih) ∧ w'.cell? ⟨w.heap.size, 14, none⟩ = some (.int .i64 ia) ∧ w'.cell? ⟨bf, 0, none⟩ = some (.int .i64 (fhi F0)) ∧ w'.cell? ⟨bf, 1, none⟩ = some (.int .i64 (flo F0)) ∧ w'.cell? ⟨bt, 0, none⟩ = some (.int .i64 (fhi T1)) ∧ w'.cell? ⟨bt, 1, none⟩ = some (.int .i64 (flo T1)))) _ := HSS.out _ HO5.out
        try simp only [Act.put, List.setIfInBounds_toArray, List.set_cons_zero, List.set_cons_succ]
        refine wpAnyK_step 11 rfl (by kernel_rfl) (fun K71 hK => ?_)
        go_simp
        refine (rless_any F0 (na + -l) _).mono ?_
        rintro r w6 ⟨rfl, hB6⟩
        have HO6 : Hid (OpS w bw bf bt (clC9 x0 x1 x2 x3 x4 x5 x6 x7 x8 ⟨eh, ea⟩ ⟨true, na⟩ ⟨ih, ia⟩) w6 F0 T1) := HO5.out.below hB6
        clear hB6
        dsimp only
        refine hK.out _ _ ?hk71 ?_
        case hk71 => exact fun _ => HSS.out _ HO6.out
        clear hHeld hK K71
        have hHeld : ((fun (w' : World) => w'.cell? ⟨w.heap.size, 9, none⟩ = some (.bool eh) ∧ w'.cell? ⟨w.heap.size, 10, none⟩ = some (.int .i64 ea) ∧ w'.cell? ⟨w.heap.size, 11, none⟩ = some (.bool true) ∧ w'.cell? ⟨w.heap.size, 12, none⟩ = some (.int .i64 na) ∧ w'.cell? ⟨w.heap.size, 13, none⟩ = some (.bool ih) ∧ w'.cell? ⟨w.heap.size, 14, none⟩ = some (.int .i64 ia) ∧ w'.cell? ⟨bf, 0, none⟩ = some (.int .i64 (fhi F0)) ∧ w'.cell? ⟨bf, 1, none⟩ = some (.int .i64 (flo F0)) ∧ w'.cell? ⟨bt, 0, none⟩ = some (.int .i64 (fhi T1)) ∧ w'.cell? ⟨bt, 1, none⟩ = some (.int .i64 (flo T1)))) _ := HSS.out _ HO6.out
        try simp only [Act.put, List.setIfInBounds_toArray, List.set_cons_zero, List.set_cons_succ]
        refine wpAnyK_step 12 rfl (by kernel_rfl) (fun K72 hK => ?_)
        go_simp
        refine hK.out _ _ (fun h => nomatch (h.symm.trans (show _ = true by kernel_rfl))) ?_
        clear hK K72
        try simp only [Act.put, List.setIfInBounds_toArray, List.set_cons_zero, List.set_cons_succ]
        refine wpAnyK_done (by kernel_rfl) ?_ _
        clear hHeld
        go_wp2
        go_meet
        exact ⟨by simp, HO6.out⟩
    case rest =>
    obtain ⟨rfl, HOn⟩ := hcut
    clear HSS HOS
    have HOS := HOn
    clear HOn
    obtain ⟨b8, hb8⟩ : ∃ b, (nh && decide (F0 < na + -l)) = b := ⟨_, rfl⟩
    have Hb8 : Hid ((nh && decide (F0 < na + -l)) = b8) := hb8
    rw [hb8]
    clear hb8
    obtain ⟨F1, hn8⟩ : ∃ x : Int, (if b8 = true then (na + -l) else F0) = x := ⟨_, rfl⟩
    have Hn8 : Hid ((if b8 = true then (na + -l) else F0) = F1) := hn8
    clear hn8
    go_upto_if 50 with fail
    go_cut [] from 51 to 56 (fun wx => Hid (OpS w bw bf bt (clC9 x0 x1 x2 x3 x4 x5 x6 x7 x8 ⟨eh, ea⟩ ⟨nh, na⟩ ⟨ih, ia⟩) wx F1 T1))
    case first =>
      cases b8
      · have e : F0 = F1 := Hn8.out
        go_wp2
        go_meet
        rw [← e]
        exact HOS
      · have e : (na + -l) = F1 := Hn8.out
        have CX := rfar_any na (-l) wc HN.out (by omega) (by omega)
        have kk := HOS.out.cl.cell 12 (by simp [clC9])
        have kk2 : wc.cell? ⟨w.heap.size, 12, none⟩ = some (.int .i64 na) := kk
        clear kk
        go_wp2_with fail
        refine CX.mono ?_
        clear CX kk2
        rintro r w7 ⟨rfl, hB7⟩
        have HO7 : Hid (OpS w bw bf bt (clC9 x0 x1 x2 x3 x4 x5 x6 x7 x8 ⟨eh, ea⟩ ⟨nh, na⟩ ⟨ih, ia⟩) w7 F0 T1) := HOS.out.below hB7
        clear hB7 HOS
        obtain ⟨wz, hwz⟩ : ∃ wz, w7.setRow bf (farC (na + -l)).toArray = wz := ⟨_, rfl⟩
        have HZ : Hid (OpS w bw bf bt (clC9 x0 x1 x2 x3 x4 x5 x6 x7 x8 ⟨eh, ea⟩ ⟨nh, na⟩ ⟨ih, ia⟩) wz F1 T1) := by rw [← hwz, ← e]; exact HO7.out.setF _ HP.out.1 HP.out.2.1 HP.out.2.2
        have HWz : Hid (w7.setRow bf (farC (na + -l)).toArray = wz) := hwz
        have hgi : (Try.prog.info? 45).map (·.size) = some 2 := by kernel_rfl
        unfold farV
        clear hwz e Hn8
        go_wp2_with (refine wpList_store_row rfl 45 (.tmp 7) (.tmp 56) rfl bf (farC (na + -l)).toArray rfl rfl 45 (farC F0).toArray HO7.out.fr hgi rfl (by simp [farC, Value.oneCell']) ?_; rw [HWz.out]; clear HWz hgi)
        go_meet
        exact HZ
    case rest =>
    clear HOS
    have HOS := hcut
    clear hcut
    have HSS : Hid (∀ wq, OpS w bw bf bt (clC9 x0 x1 x2 x3 x4 x5 x6 x7 x8 ⟨eh, ea⟩ ⟨nh, na⟩ ⟨ih, ia⟩) wq F1 T1 → (fun (w' : World) => w'.cell? ⟨w.heap.size, 9, none⟩ = some (.bool eh) ∧ w'.cell? ⟨w.heap.size, 10, none⟩ = some (.int .i64 ea) ∧ w'.cell? ⟨w.heap.size, 11, none⟩ = some (.bool nh) ∧ w'.cell? ⟨w.heap.size, 12, none⟩ = some (.int .i64 na) ∧ w'.cell? ⟨w.heap.size, 13, none⟩ = some (.bool ih) ∧ w'.cell? ⟨w.heap.size, 14, none⟩ = some (.int .i64 ia) ∧ w'.cell? ⟨bf, 0, none⟩ = some (.int .i64 (fhi F1)) ∧ w'.cell? ⟨bf, 1, none⟩ = some (.int .i64 (flo F1)) ∧ w'.cell? ⟨bt, 0, none⟩ = some (.int .i64 (fhi T1)) ∧ w'.cell? ⟨bt, 1, none⟩ = some (.int .i64 (flo T1))) wq) := (fun wq (hq : OpS w bw bf bt (clC9 x0 x1 x2 x3 x4 x5 x6 x7 x8 ⟨eh, ea⟩ ⟨nh, na⟩ ⟨ih, ia⟩) wq F1 T1) => (⟨hq.cl.cell 9 (by simp [clC9]), hq.cl.cell 10 (by simp [clC9]), hq.cl.cell 11 (by simp [clC9]), hq.cl.cell 12 (by simp [clC9]), hq.cl.cell 13 (by simp [clC9]), hq.cl.cell 14 (by simp [clC9]), hq.fr.cell 0 (by simp [farC]), hq.fr.cell 1 (by simp [farC]), hq.tn.cell 0 (by simp [farC]), hq.tn.cell 1 (by simp [farC])⟩ : (fun (w' : World) => w'.cell? ⟨w.heap.size, 9, none⟩ = some (.bool eh) ∧ w'.cell? ⟨w.heap.size, 10, none⟩ = some (.int .i64 ea) ∧ w'.cell? ⟨w.heap.size, 11, none⟩ = some (.bool nh) ∧ w'.cell? ⟨w.heap.size, 12, none⟩ = some (.int .i64 na) ∧ w'.cell? ⟨w.heap.size, 13, none⟩ = some (.bool ih) ∧ w'.cell? ⟨w.heap.size, 14, none⟩ = some (.int .i64 ia) ∧ w'.cell? ⟨bf, 0, none⟩ = some (.int .i64 (fhi F1)) ∧ w'.cell? ⟨bf, 1, none⟩ = some (.int .i64 (flo F1)) ∧ w'.cell? ⟨bt, 0, none⟩ = some (.int .i64 (fhi T1)) ∧ w'.cell? ⟨bt, 1, none⟩ = some (.int .i64 (flo T1))) wq))
    go_upto_region 10 with fail
    go_cut [69] from 57 to 69 (fun s wx => s = .bool (ih && decide (F1 < ia + -l)) ∧ Hid (OpS w bw bf bt (clC9 x0 x1 x2 x3 x4 x5 x6 x7 x8 ⟨eh, ea⟩ ⟨nh, na⟩ ⟨ih, ia⟩) wx F1 T1))
    case first =>
      cases ih
      · skip
        refine wp_region_K 12 (fun (w' : World) => w'.cell? ⟨w.heap.size, 9, none⟩ = some (.bool eh) ∧ w'.cell? ⟨w.heap.size, 10, none⟩ = some (.int .i64 ea) ∧ w'.cell? ⟨w.heap.size, 11, none⟩ = some (.bool nh) ∧ w'.cell? ⟨w.heap.size, 12, none⟩ = some (.int .i64 na) ∧ w'.cell? ⟨w.heap.size, 13, none⟩ = some (.bool false) ∧ w'.cell? ⟨w.heap.size, 14, none⟩ = some (.int .i64 ia) ∧ w'.cell? ⟨bf, 0, none⟩ = some (.int .i64 (fhi F1)) ∧ w'.cell? ⟨bf, 1, none⟩ = some (.int .i64 (flo F1)) ∧ w'.cell? ⟨bt, 0, none⟩ = some (.int .i64 (fhi T1)) ∧ w'.cell? ⟨bt, 1, none⟩ = some (.int .i64 (flo T1))) (by kernel_rfl) ?_
        have hHeld : ((fun (w' : World) => w'.cell? ⟨w.heap.size, 9, none⟩ = some (.bool eh) ∧ w'.cell? ⟨w.heap.size, 10, none⟩ = some (.int .i64 ea) ∧ w'.cell? ⟨w.heap.size, 11, none⟩ = some (.bool nh) ∧ w'.cell? ⟨w.heap.size, 12, none⟩ = some (.int .i64 na) ∧ w'.cell? ⟨w.heap.size, 13, none⟩ = some (.bool false) ∧ w'.cell? ⟨w.heap.size, 14, none⟩ = some (.int .i64 ia) ∧ w'.cell? ⟨bf, 0, none⟩ = some (.int .i64 (fhi F1)) ∧ w'.cell? ⟨bf, 1, none⟩ = some (.int .i64 (flo F1)) ∧ w'.cell? ⟨bt, 0, none⟩ = some (.int .i64 (fhi T1)) ∧ w'.cell? ⟨bt, 1, none⟩ = some (.int .i64 (flo T1)))) (World.drew _) := HSS.out _ HOS.out.drew
        refine wpAnyK_take0 0 (v := ?v73) rfl (by kernel_rfl) (fun _ _ _ h => h) (Or.inl ⟨by rfl, ?hy73⟩) (fun _ => hHeld) ?_
        case hy73 => (intro w hSw; go_simp; try with_reducible rfl)
        try simp only [Act.put, List.setIfInBounds_toArray, List.set_cons_zero, List.set_cons_succ]
        refine wpAnyK_take0 1 (v := ?v74) rfl (by kernel_rfl) (fun _ _ _ h => h) (Or.inl ⟨by rfl, ?hy74⟩) (fun _ => hHeld) ?_
        case hy74 => (intro w hSw; go_simp; try with_reducible rfl)
        try simp only [Act.put, List.setIfInBounds_toArray, List.set_cons_zero, List.set_cons_succ]
        refine wpAnyK_take 2 [3, 12] (v := ?v75) rfl (by kernel_rfl) (fun _ _ _ h => h) (Or.inl ⟨by rfl, ?hy75⟩) hHeld ?_
        case hy75 => (intro w hSw; (try dsimp only at hSw); go_simp; try with_reducible rfl)
        try simp only [Act.put, List.setIfInBounds_toArray, List.set_cons_zero, List.set_cons_succ]
        refine wpAnyK_take0 3 (v := ?v76) rfl (by kernel_rfl) (fun _ _ _ h => h) (Or.inl ⟨by rfl, ?hy76⟩) (fun _ => hHeld) ?_
        case hy76 => (intro w hSw; go_simp; try with_reducible rfl)
        try simp only [Act.put, List.setIfInBounds_toArray, List.set_cons_zero, List.set_cons_succ]
        refine wpAnyK_take0 4 (v := undef) rfl (by kernel_rfl) (fun _ _ _ h => h) (Or.inr ⟨by rfl, rfl⟩) (fun _ => hHeld) ?_
        try simp only [Act.put, List.setIfInBounds_toArray, List.set_cons_zero, List.set_cons_succ]
        refine wpAnyK_take0 5 (v := undef) rfl (by kernel_rfl) (fun _ _ _ h => h) (Or.inr ⟨by rfl, rfl⟩) (fun _ => hHeld) ?_
        try simp only [Act.put, List.setIfInBounds_toArray, List.set_cons_zero, List.set_cons_succ]
        refine wpAnyK_take0 6 (v := undef) rfl (by kernel_rfl) (fun _ _ _ h => h) (Or.inr ⟨by rfl, rfl⟩) (fun _ => hHeld) ?_
        try simp only [Act.put, List.setIfInBounds_toArray, List.set_cons_zero, List.set_cons_succ]
        refine wpAnyK_take0 7 (v := undef) rfl (by kernel_rfl) (fun _ _ _ h => h) (Or.inr ⟨by rfl, rfl⟩) (fun _ => hHeld) ?_
        try simp only [Act.put, List.setIfInBounds_toArray, List.set_cons_zero, List.set_cons_succ]
        refine wpAnyK_take0 8 (v := undef) rfl (by kernel_rfl) (fun _ _ _ h => h) (Or.inr ⟨by rfl, rfl⟩) (fun _ => hHeld) ?_
        try simp only [Act.put, List.setIfInBounds_toArray, List.set_cons_zero, List.set_cons_succ]
        refine wpAnyK_take0 9 (v := undef) rfl (by kernel_rfl) (fun _ _ _ h => h) (Or.inr ⟨by rfl, rfl⟩) (fun _ => hHeld) ?_
        try simp only [Act.put, List.setIfInBounds_toArray, List.set_cons_zero, List.set_cons_succ]
        refine wpAnyK_step 10 rfl (by kernel_rfl) (fun K83 hK => ?_)
        go_simp
        refine hK.out _ _ (fun _ => hHeld) ?_
        clear hK K83
        try simp only [Act.put, List.setIfInBounds_toArray, List.set_cons_zero, List.set_cons_succ]
        refine wpAnyK_step 11 rfl (by kernel_rfl) (fun K84 hK => ?_)
        go_simp
        refine hK.out _ _ (fun _ => hHeld) ?_
        clear hK K84
        try simp only [Act.put, List.setIfInBounds_toArray, List.set_cons_zero, List.set_cons_succ]
        refine wpAnyK_step 12 rfl (by kernel_rfl) (fun K85 hK => ?_)
        go_simp
        refine hK.out _ _ (fun h => nomatch (h.symm.trans (show _ = true by kernel_rfl))) ?_
        clear hK K85
        try simp only [Act.put, List.setIfInBounds_toArray, List.set_cons_zero, List.set_cons_succ]
        refine wpAnyK_done (by kernel_rfl) ?_ _
        clear hHeld
        go_wp2
        go_meet
        exact ⟨rfl, HOS.out.drew⟩
      · skip
        refine wp_region_K 12 (fun (w' : World) => w'.cell? ⟨w.heap.size, 9, none⟩ = some (.bool eh) ∧ w'.cell? ⟨w.heap.size, 10, none⟩ = some (.int .i64 ea) ∧ w'.cell? ⟨w.heap.size, 11, none⟩ = some (.bool nh) ∧ w'.cell? ⟨w.heap.size, 12, none⟩ = some (.int .i64 na) ∧ w'.cell? ⟨w.heap.size, 13, none⟩ = some (.bool true) ∧ w'.cell? ⟨w.heap.size, 14, none⟩ = some (.int .i64 ia) ∧ w'.cell? ⟨bf, 0, none⟩ = some (.int .i64 (fhi F1)) ∧ w'.cell? ⟨bf, 1, none⟩ = some (.int .i64 (flo F1)) ∧ w'.cell? ⟨bt, 0, none⟩ = some (.int .i64 (fhi T1)) ∧ w'.cell? ⟨bt, 1, none⟩ = some (.int .i64 (flo T1))) (by kernel_rfl) ?_
        have hHeld : ((fun (w' : World) => w'.cell? ⟨w.heap.size, 9, none⟩ = some (.bool eh) ∧ w'.cell? ⟨w.heap.size, 10, none⟩ = some (.int .i64 ea) ∧ w'.cell? ⟨w.heap.size, 11, none⟩ = some (.bool nh) ∧ w'.cell? ⟨w.heap.size, 12, none⟩ = some (.int .i64 na) ∧ w'.cell? ⟨w.heap.size, 13, none⟩ = some (.bool true) ∧ w'.cell? ⟨w.heap.size, 14, none⟩ = some (.int .i64 ia) ∧ w'.cell? ⟨bf, 0, none⟩ = some (.int .i64 (fhi F1)) ∧ w'.cell? ⟨bf, 1, none⟩ = some (.int .i64 (flo F1)) ∧ w'.cell? ⟨bt, 0, none⟩ = some (.int .i64 (fhi T1)) ∧ w'.cell? ⟨bt, 1, none⟩ = some (.int .i64 (flo T1)))) (World.drew _) := HSS.out _ HOS.out.drew
        refine wpAnyK_take0 0 (v := ?v86) rfl (by kernel_rfl) (fun _ _ _ h => h) (Or.inl ⟨by rfl, ?hy86⟩) (fun _ => hHeld) ?_
        case hy86 => (intro w hSw; go_simp; try with_reducible rfl)
        try simp only [Act.put, List.setIfInBounds_toArray, List.set_cons_zero, List.set_cons_succ]
        refine wpAnyK_take0 1 (v := ?v87) rfl (by kernel_rfl) (fun _ _ _ h => h) (Or.inl ⟨by rfl, ?hy87⟩) (fun _ => hHeld) ?_
        case hy87 => (intro w hSw; go_simp; try with_reducible rfl)
        try simp only [Act.put, List.setIfInBounds_toArray, List.set_cons_zero, List.set_cons_succ]
        refine wpAnyK_take 2 [3, 12] (v := ?v88) rfl (by kernel_rfl) (fun _ _ _ h => h) (Or.inl ⟨by rfl, ?hy88⟩) hHeld ?_
        case hy88 => (intro w hSw; (try dsimp only at hSw); go_simp; try with_reducible rfl)
        try simp only [Act.put, List.setIfInBounds_toArray, List.set_cons_zero, List.set_cons_succ]
        refine wpAnyK_take0 3 (v := ?v89) rfl (by kernel_rfl) (fun _ _ _ h => h) (Or.inl ⟨by rfl, ?hy89⟩) (fun _ => hHeld) ?_
        case hy89 => (intro w hSw; go_simp; try with_reducible rfl)
        try simp only [Act.put, List.setIfInBounds_toArray, List.set_cons_zero, List.set_cons_succ]
        refine wpAnyK_take 4 [11, 12] (v := ?v90) rfl (by kernel_rfl) (fun _ _ _ h => h) (Or.inl ⟨by rfl, ?hy90⟩) hHeld ?_
        case hy90 => (intro w hSw; (try dsimp only at hSw); go_simp; try with_reducible rfl)
        try simp only [Act.put, List.setIfInBounds_toArray, List.set_cons_zero, List.set_cons_succ]
        refine wpAnyK_take0 5 (v := ?v91) rfl (by kernel_rfl) (fun _ _ _ h => h) (Or.inl ⟨by rfl, ?hy91⟩) (fun _ => hHeld) ?_
        case hy91 => (intro w hSw; go_simp; try with_reducible rfl)
        try simp only [Act.put, List.setIfInBounds_toArray, List.set_cons_zero, List.set_cons_succ]
        refine wpAnyK_take0 6 (v := ?v92) rfl (by kernel_rfl) (fun _ _ _ h => h) (Or.inl ⟨by rfl, ?hy92⟩) (fun _ => hHeld) ?_
        case hy92 => (intro w hSw; go_simp; try with_reducible rfl)
        try simp only [Act.put, List.setIfInBounds_toArray, List.set_cons_zero, List.set_cons_succ]
        refine wpAnyK_take 7 [10, 11, 12] (v := ?v93) rfl (by kernel_rfl) (fun _ _ _ h => h) (Or.inl ⟨by rfl, ?hy93⟩) hHeld ?_
        case hy93 => (intro w hSw; (try dsimp only at hSw); go_simp; try with_reducible rfl)
        try simp only [Act.put, List.setIfInBounds_toArray, List.set_cons_zero, List.set_cons_succ]
        refine wpAnyK_take0 8 (v := ?v94) rfl (by kernel_rfl) (fun _ _ _ h => h) (Or.inl ⟨by rfl, ?hy94⟩) (fun _ => hHeld) ?_
        case hy94 => (intro w hSw; go_simp; try with_reducible rfl)
        try simp only [Act.put, List.setIfInBounds_toArray, List.set_cons_zero, List.set_cons_succ]
        refine wpAnyK_take0 9 (v := ?v95) rfl (by kernel_rfl) (fun _ _ _ h => h) (Or.inl ⟨by rfl, ?hy95⟩) (fun _ => hHeld) ?_
        case hy95 => (intro w hSw; go_simp; (try rw [hneg]); try with_reducible rfl)
        try simp only [Act.put, List.setIfInBounds_toArray, List.set_cons_zero, List.set_cons_succ]
        refine wpAnyK_step 10 rfl (by kernel_rfl) (fun K96 hK => ?_)
        go_simp
        refine (rfar_any ia (-l) _ HI.out (by omega) (by omega)).mono ?_
        rintro r w5 ⟨rfl, hB5⟩
        have HO5 : Hid (OpS w bw bf bt (clC9 x0 x1 x2 x3 x4 x5 x6 x7 x8 ⟨eh, ea⟩ ⟨nh, na⟩ ⟨true, ia⟩) w5 F1 T1) := HOS.out.drew.below hB5
        clear hB5
        unfold farV
        dsimp only
        refine hK.out _ _ ?hk96 ?_
        case hk96 => exact fun _ => HSS.out _ HO5.out
        clear hHeld hK K96
        have hHeld : ((fun (w' : World) => w'.cell? ⟨w.heap.size, 9, none⟩ = some (.bool eh) ∧ w'.cell? ⟨w.heap.size, 10, none⟩ = some (.int .i64 ea) ∧ w'.cell? ⟨w.heap.size, 11, none⟩ = some (.bool nh) ∧ w'.cell? ⟨w.heap.size, 12, none⟩ = some (.int .i64 na) ∧ w'.cell? ⟨w.heap.size, 13, none⟩ = some (.bool true) ∧ w'.cell? ⟨w.heap.size, 14, none⟩ = some (.int .i64 ia) ∧ w'.cell? ⟨bf, 0, none⟩ = some (.int .i64 (fhi F1)) ∧ w'.cell? ⟨bf, 1, none⟩ = some (.int .i64 (flo F1)) ∧ w'.cell? ⟨bt, 0, none⟩ = some (.int .i64 (fhi T1)) ∧ w'.cell? ⟨bt, 1, none⟩ = some (.int .i64 (flo T1)))) _ := HSS.out _ HO5.out
        try simp only [Act.put, List.setIfInBounds_toArray, List.set_cons_zero, List.set_cons_succ]
        refine wpAnyK_step 11 rfl (by kernel_rfl) (fun K97 hK => ?_)
        go_simp
        refine (rless_any F1 (ia + -l) _).mono ?_
        rintro r w6 ⟨rfl, hB6⟩
        have HO6 : Hid (OpS w bw bf bt (clC9 x0 x1 x2 x3 x4 x5 x6 x7 x8 ⟨eh, ea⟩ ⟨nh, na⟩ ⟨true, ia⟩) w6 F1 T1) := HO5.out.below hB6
        clear hB6
        dsimp only
        refine hK.out _ _ ?hk97 ?_
        case hk97 => exact fun _ => HSS.out _ HO6.out
        clear hHeld hK K97
        have hHeld : ((fun (w' : World) => w'.cell? ⟨w.heap.size, 9, none⟩ = some (.bool eh) ∧ w'.cell? ⟨w.heap.size, 10, none⟩ = some (.int .i64 ea) ∧ w'.cell? ⟨w.heap.size, 11, none⟩ = some (.bool nh) ∧ w'.cell? ⟨w.heap.size, 12, none⟩ = some (.int .i64 na) ∧ w'.cell? ⟨w.heap.size, 13, none⟩ = some (.bool true) ∧ w'.cell? ⟨w.heap.size, 14, none⟩ = some (.int .i64 ia) ∧ w'.cell? ⟨bf, 0, none⟩ = some (.int .i64 (fhi F1)) ∧ w'.cell? ⟨bf, 1, none⟩ = some (.int .i64 (flo F1)) ∧ w'.cell? ⟨bt, 0, none⟩ = some (.int .i64 (fhi T1)) ∧ w'.cell? ⟨bt, 1, none⟩ = some (.int .i64 (flo T1)))) _ := HSS.out _ HO6.out
        try simp only [Act.put, List.setIfInBounds_toArray, List.set_cons_zero, List.set_cons_succ]
        refine wpAnyK_step 12 rfl (by kernel_rfl) (fun K98 hK => ?_)
        go_simp
        refine hK.out _ _ (fun h => nomatch (h.symm.trans (show _ = true by kernel_rfl))) ?_
        clear hK K98
        try simp only [Act.put, List.setIfInBounds_toArray, List.set_cons_zero, List.set_cons_succ]
        refine wpAnyK_done (by kernel_rfl) ?_ _
        clear hHeld
        go_wp2
        go_meet
        exact ⟨by simp, HO6.out⟩
    case rest =>
    obtain ⟨rfl, HOn⟩ := hcut
    clear HSS HOS
    have HOS := HOn
    clear HOn
    obtain ⟨b10, hb10⟩ : ∃ b, (ih && decide (F1 < ia + -l)) = b := ⟨_, rfl⟩
    have Hb10 : Hid ((ih && decide (F1 < ia + -l)) = b10) := hb10
    rw [hb10]
    clear hb10
    obtain ⟨F2, hn10⟩ : ∃ x : Int, (if b10 = true then (ia + -l) else F1) = x := ⟨_, rfl⟩
    have Hn10 : Hid ((if b10 = true then (ia + -l) else F1) = F2) := hn10
    clear hn10
    go_upto_if 69 with fail
    go_cut [] from 70 to 75 (fun wx => Hid (OpS w bw bf bt (clC9 x0 x1 x2 x3 x4 x5 x6 x7 x8 ⟨eh, ea⟩ ⟨nh, na⟩ ⟨ih, ia⟩) wx F2 T1))
    case first =>
      cases b10
      · have e : F1 = F2 := Hn10.out
        go_wp2
        go_meet
        rw [← e]
        exact HOS
      · have e : (ia + -l) = F2 := Hn10.out
        have CX := rfar_any ia (-l) wc HI.out (by omega) (by omega)
        have kk := HOS.out.cl.cell 14 (by simp [clC9])
        have kk2 : wc.cell? ⟨w.heap.size, 14, none⟩ = some (.int .i64 ia) := kk
        clear kk
        go_wp2_with fail
        refine CX.mono ?_
        clear CX kk2
        rintro r w7 ⟨rfl, hB7⟩
        have HO7 : Hid (OpS w bw bf bt (clC9 x0 x1 x2 x3 x4 x5 x6 x7 x8 ⟨eh, ea⟩ ⟨nh, na⟩ ⟨ih, ia⟩) w7 F1 T1) := HOS.out.below hB7
        clear hB7 HOS
        obtain ⟨wz, hwz⟩ : ∃ wz, w7.setRow bf (farC (ia + -l)).toArray = wz := ⟨_, rfl⟩
        have HZ : Hid (OpS w bw bf bt (clC9 x0 x1 x2 x3 x4 x5 x6 x7 x8 ⟨eh, ea⟩ ⟨nh, na⟩ ⟨ih, ia⟩) wz F2 T1) := by rw [← hwz, ← e]; exact HO7.out.setF _ HP.out.1 HP.out.2.1 HP.out.2.2
        have HWz : Hid (w7.setRow bf (farC (ia + -l)).toArray = wz) := hwz
        have hgi : (Try.prog.info? 45).map (·.size) = some 2 := by kernel_rfl
        unfold farV
        clear hwz e Hn10
        go_wp2_with (refine wpList_store_row rfl 45 (.tmp 7) (.tmp 75) rfl bf (farC (ia + -l)).toArray rfl rfl 45 (farC F1).toArray HO7.out.fr hgi rfl (by simp [farC, Value.oneCell']) ?_; rw [HWz.out]; clear HWz hgi)
        go_meet
        exact HZ
    case rest =>
    clear HOS
    have HOS := hcut
    clear hcut
    have eT : toD eh ea l = T1 := by unfold toD; rw [Hb6.out]; exact Hn6.out
    have eF : frD nh na l F0 = F1 := by unfold frD; rw [Hb8.out]; exact Hn8.out
    have eG : frD ih ia l F1 = F2 := by unfold frD; rw [Hb10.out]; exact Hn10.out
    rw [eF, eG, eT] at HOD
    rw [eF, eG] at HFB
    rw [eT] at HTB
    clear Hb6 Hb8 Hb10 Hn6 Hn8 Hn10 eT eF eG HE HN HI
    have f0 := HOS.out.fr.cell 0 (by simp [farC])
    have f1 := HOS.out.fr.cell 1 (by simp [farC])
    have t0 := HOS.out.tn.cell 0 (by simp [farC])
    have t1 := HOS.out.tn.cell 1 (by simp [farC])
    have f0 : wc.cell? ⟨bf, 0, none⟩ = some (.int .i64 (fhi F2)) := f0
    have f1 : wc.cell? ⟨bf, 1, none⟩ = some (.int .i64 (flo F2)) := f1
    have t0 : wc.cell? ⟨bt, 0, none⟩ = some (.int .i64 (fhi T1)) := t0
    have t1 : wc.cell? ⟨bt, 1, none⟩ = some (.int .i64 (flo T1)) := t1
    have CL := rless_any T1 F2 wc
    unfold farV at CL
    go_wp2_with fail
    refine CL.mono ?_
    clear CL f0 f1 t0 t1
    rintro r w8 ⟨rfl, hB8⟩
    have HO8 : Hid (OpS w bw bf bt (clC9 x0 x1 x2 x3 x4 x5 x6 x7 x8 ⟨eh, ea⟩ ⟨nh, na⟩ ⟨ih, ia⟩) w8 F2 T1) := HOS.out.below hB8
    clear hB8 HOS
    have HBx : Hid (Below w.heap.size w w8) := HO8.out.bel
    have HBox : Hid (Bl 32 w8 bw (wnC ⟨false, 0, 0⟩)) := HO8.out.wn
    have HbW : Hid (w.heap.size ≤ bw) := Nat.le_of_lt HP.out.1
    by_cases hx : T1 < F2
    · rw [decide_eq_true hx]
      have HX : Hid (openF ⟨eh, ea⟩ ⟨nh, na⟩ ⟨ih, ia⟩ l = (⟨true, 0, 0⟩, 0)) := by show _ = _; rw [HOD.out]; exact if_pos hx
      clear HOD
      obtain ⟨wz, hwz⟩ : ∃ wz, w8.setRow bw (wnC ⟨true, 0, 0⟩).toArray = wz := ⟨_, rfl⟩
      have HBz : Hid (Bl 32 wz bw (wnC ⟨true, 0, 0⟩)) := by rw [← hwz]; exact set_bl2 HBox.out
      have Hz : Hid (Below w.heap.size w wz) := by rw [← hwz]; exact setRow_below2 _ HBx.out HbW.out
      have HWz : Hid (w8.setRow bw (wnC ⟨true, 0, 0⟩).toArray = wz) := hwz
      clear hwz
      have hgi : (Try.prog.info? 32).map (·.size) = some 3 := by kernel_rfl
      go_wp2_with (refine wpList_store_row rfl 32 (.tmp 4) (.tmp 79) rfl bw (wnC ⟨true, 0, 0⟩).toArray rfl rfl 32 (wnC ⟨false, 0, 0⟩).toArray HBox.out hgi rfl (by simp [wnC, Value.oneCell']) ?_; rw [HWz.out]; clear HWz hgi)
      (try simp only [Exit.inBlock, Exit.then])
      refine bodyPost_ret (v := .tuple #[wnV ⟨true, 0, 0⟩, .int .i64 0]) (results_wn rfl _ _ bw ⟨true, 0, 0⟩ _ rfl rfl HBz.out) rfl ⟨?_, Hz.out⟩
      rw [HX.out]; rfl

    · rw [decide_eq_false hx]
      have HX : Hid (openF ⟨eh, ea⟩ ⟨nh, na⟩ ⟨ih, ia⟩ l = (⟨false, F2, T1⟩, 0)) := by show _ = _; rw [HOD.out]; exact if_neg hx
      have g1 := far_back HFB.out
      have g3 := far_back (x := T1) (by have := HFB.out; have := HTB.out; unfold I64 at *; omega)
      have f0 : w8.cell? ⟨bf, 0, none⟩ = some (.int .i64 (fhi F2)) := HO8.out.fr.cell 0 (by simp [farC])
      have f1 : w8.cell? ⟨bf, 1, none⟩ = some (.int .i64 (flo F2)) := HO8.out.fr.cell 1 (by simp [farC])
      have t0 : w8.cell? ⟨bt, 0, none⟩ = some (.int .i64 (fhi T1)) := HO8.out.tn.cell 0 (by simp [farC])
      have t1 : w8.cell? ⟨bt, 1, none⟩ = some (.int .i64 (flo T1)) := HO8.out.tn.cell 1 (by simp [farC])
      have r1 := flo_b F2
      have r2 := flo_b T1
      have r3 := HFB.out
      have r4 := HTB.out
      unfold I64 at r3
      clear HOD
      obtain ⟨wz, hwz⟩ : ∃ wz, w8.setRow bw (wnC ⟨false, F2, T1⟩).toArray = wz := ⟨_, rfl⟩
      have HBz : Hid (Bl 32 wz bw (wnC ⟨false, F2, T1⟩)) := by rw [← hwz]; exact set_bl2 HBox.out
      have Hz : Hid (Below w.heap.size w wz) := by rw [← hwz]; exact setRow_below2 _ HBx.out HbW.out
      have HWz : Hid (w8.setRow bw (wnC ⟨false, F2, T1⟩).toArray = wz) := hwz
      clear hwz
      have hgi : (Try.prog.info? 32).map (·.size) = some 3 := by kernel_rfl
      go_wp2_with (refine wpList_store_row rfl 32 (.tmp 4) (.tmp 92) rfl bw (wnC ⟨false, F2, T1⟩).toArray rfl rfl 32 (wnC ⟨false, 0, 0⟩).toArray HBox.out hgi rfl (by simp [wnC, Value.oneCell']) ?_; rw [HWz.out]; clear HWz hgi)
      (try simp only [Exit.inBlock, Exit.then])
      refine bodyPost_ret (v := .tuple #[wnV ⟨false, F2, T1⟩, .int .i64 0]) (results_wn rfl _ _ bw ⟨false, F2, T1⟩ _ rfl rfl HBz.out) rfl ⟨?_, Hz.out⟩
      rw [HX.out]; rfl

  · have HX : Hid (openF e n i l = (⟨false, 0, 0⟩, 12)) := open_out hl
    have HB : Hid (Below w.heap.size w U) := hBUw
    have HBox : Hid (Bl 32 U bw (wnC ⟨false, 0, 0⟩)) := hwn
    have HbW : Hid (w.heap.size ≤ bw) := by show _ ≤ _; omega
    rcases (show l < 0 ∨ (¬ l < 0 ∧ 600 < l) by omega) with h | ⟨h1, h2⟩
    · have q0 : decide (l < 0) = true := decide_eq_true h
      clear hbl2 hBUw hwn hl he hn hi h hbw
      go_enter Try.func7, Try.ntmps7
      go_upto_region 2 with fail
      rw [HUU.out, HWB.out]
      clear HUU HWB
      obtain ⟨wz, hwz⟩ : ∃ wz, U.setRow bw (wnC ⟨false, 0, 0⟩).toArray = wz := ⟨_, rfl⟩
      have HBz : Hid (Bl 32 wz bw (wnC ⟨false, 0, 0⟩)) := by rw [← hwz]; exact set_bl2 HBox.out
      have Hz : Hid (Below w.heap.size w wz) := by rw [← hwz]; exact setRow_below2 _ HB.out HbW.out
      have HWz : Hid (U.setRow bw (wnC ⟨false, 0, 0⟩).toArray = wz) := hwz
      clear hwz
      have hgi : (Try.prog.info? 32).map (·.size) = some 3 := by kernel_rfl
      go_wp2_with (refine wpList_store_row rfl 32 (.tmp 4) (.tmp 15) rfl bw (wnC ⟨false, 0, 0⟩).toArray rfl rfl 32 (wnC ⟨false, 0, 0⟩).toArray HBox.out hgi rfl (by simp [wnC, Value.oneCell']) ?_; rw [HWz.out]; clear HWz hgi)
      (try simp only [Exit.inBlock, Exit.then])
      refine bodyPost_ret (v := .tuple #[wnV ⟨false, 0, 0⟩, .int .i64 12]) (results_wn rfl _ _ bw ⟨false, 0, 0⟩ _ rfl rfl HBz.out) rfl ⟨?_, Hz.out⟩
      rw [HX.out]; rfl

    · have q0 : decide (l < 0) = false := decide_eq_false h1
      have q6 : decide (l > 600) = true := decide_eq_true h2
      clear hbl2 hBUw hwn hl he hn hi h1 h2 hbw
      go_enter Try.func7, Try.ntmps7
      go_upto_region 2 with fail
      rw [HUU.out, HWB.out]
      clear HUU HWB
      obtain ⟨wz, hwz⟩ : ∃ wz, U.setRow bw (wnC ⟨false, 0, 0⟩).toArray = wz := ⟨_, rfl⟩
      have HBz : Hid (Bl 32 wz bw (wnC ⟨false, 0, 0⟩)) := by rw [← hwz]; exact set_bl2 HBox.out
      have Hz : Hid (Below w.heap.size w wz) := by rw [← hwz]; exact setRow_below2 _ HB.out HbW.out
      have HWz : Hid (U.setRow bw (wnC ⟨false, 0, 0⟩).toArray = wz) := hwz
      clear hwz
      have hgi : (Try.prog.info? 32).map (·.size) = some 3 := by kernel_rfl
      go_wp2_with (refine wpList_store_row rfl 32 (.tmp 4) (.tmp 15) rfl bw (wnC ⟨false, 0, 0⟩).toArray rfl rfl 32 (wnC ⟨false, 0, 0⟩).toArray HBox.out hgi rfl (by simp [wnC, Value.oneCell']) ?_; rw [HWz.out]; clear HWz hgi)
      (try simp only [Exit.inBlock, Exit.then])
      refine bodyPost_ret (v := .tuple #[wnV ⟨false, 0, 0⟩, .int .i64 12]) (results_wn rfl _ _ bw ⟨false, 0, 0⟩ _ rfl rfl HBz.out) rfl ⟨?_, Hz.out⟩
      rw [HX.out]; rfl

end Go.Proofs.Ytjaopeenkbcjcaa
