import Derived.Test.YtiklijaabeaebaaDoorPieces
namespace Go.Proofs.YtiklijaabeaebaaDoor
open Go.RowKit

/-- Whole numbers that can be read there. -/
def RdI (w : World) (ao : Option Addr) (l : List Int) : Prop :=
  (l = [] ∨ ∃ g off : Nat, ao = some ⟨g, off, none⟩ ∧ ∀ j, j < l.length → w.cell? ⟨g, off + j, none⟩ = some (.int .i64 (l.getD j 0))) ∧ ∀ x ∈ l, -9223372036854775808 ≤ x ∧ x ≤ 9223372036854775807

theorem Tb.seven {w : World} (T : Tb w) : 7 ≤ w.heap.size := by have := cell_lt (T.k 0 (by omega)); omega

theorem Rd.part {w : World} {a : Option Addr} {X : List UInt8} (h : Rd w a X) (pos k : Nat) (hk : pos + k ≤ X.length) (a' : Option Addr) (ha : ∀ g o, a = some ⟨g, o, none⟩ → pos < X.length → a' = some ⟨g, o + pos, none⟩) : Rd w a' ((X.drop pos).take k) := by
  by_cases h0 : (X.drop pos).take k = []
  · exact .inl h0
  · have hk0 : 0 < k ∧ pos < X.length := by
      have : ((X.drop pos).take k).length ≠ 0 := fun e => h0 (List.eq_nil_of_length_eq_zero e)
      rw [List.length_take, List.length_drop] at this
      omega
    rcases h with h | ⟨g, o, e, hg, hc⟩
    · subst h; simp at h0
    · refine .inr ⟨g, o + pos, ha g o e hk0.2, hg, fun j hj => ?_⟩
      rw [List.length_take, List.length_drop] at hj
      rw [Nat.add_assoc, hc (pos + j) (by omega)]
      congr 2
      rw [List.getD_eq_getElem?_getD, List.getD_eq_getElem?_getD, List.getElem?_take_of_lt (by omega), List.getElem?_drop]

/-- A list of one part, new. -/
theorem one_pts (w : World) (t : TypeId) (p : Prt) (W : World) (hW : W = w.alloc (.cells #[prV p] t)) (hp : prOk w p) : Below w.heap.size w W ∧ Pts W (some ⟨w.heap.size, 0, none⟩) [p] := by
  have h1 : Below w.heap.size w W := by rw [hW]; exact alloc_below _ _
  refine ⟨h1, .inr ⟨_, 0, rfl, fun j hj => ?_⟩, fun q hq => ?_⟩
  · have : j = 0 := by simpa using hj
    subst this
    have a1 : W.heap[w.heap.size]? = some (.cells #[prV p] t) := by rw [hW]; exact alloc_last _ _
    unfold World.cell?
    simp [a1]
  · obtain rfl := List.mem_singleton.1 hq
    exact ⟨hp.1.below h1 (Nat.le_refl _), hp.2⟩

theorem own_but' {w w' : World} {base n b : Nat} {e : TypeId} {v : Value} {xs : List Value} (h : w.ownsRow base e 1 v n xs) (hb : But w w' b) (hk : ∀ k, v.ownBlock = some k → k ≠ b) : w'.ownsRow base e 1 v n xs := by
  refine ⟨h.1, ?_⟩
  rcases h.2 with h0 | ⟨g, cap, cur, e, hg, hh, r⟩
  · exact .inl h0
  · exact .inr ⟨g, cap, cur, e, hg, by rw [hb.block g (Array.getElem?_eq_some_iff.1 hh).1 (hk g (by rw [e]; rfl))]; exact hh, r⟩
theorem siz_le (h : Int) : siz h ≤ 64 := by unfold siz; (repeat' split) <;> omega

theorem Rd.keep {w w' : World} {ao : Option Addr} {l : List UInt8} {n : Nat} (h : Rd w ao l) (hb : Below n w w') (hn : w.heap.size ≤ n) : Rd w' ao l := h.below hb hn

set_option maxRecDepth 100000 in
set_option maxHeartbeats 4000000 in
theorem pieces_core (h : Int) (X O : List UInt8) (cuts : List Int) (a1 a2 a3 : Option Addr) (c1 c2 c3 : Nat) (w : World) (T : Tb w) (hX : Rd w a1 X) (hO : Rd w a3 O) (hC : RdI w a2 cuts)
    (s1 : X.length ≤ c1) (s2 : c1 ≤ 100000000) (s3 : O.length ≤ c3) (s4 : c3 ≤ 100000000) (s5 : cuts.length ≤ 100000000) :
    Calls Tryd.prog 4 #[.int .i64 h, .slice a1 X.length c1, .slice a2 cuts.length c2, .slice a3 O.length c3] w fun e w' => e = .returned (.bool true) ∧ Below w.heap.size w w' := by
  have HT : Hid (Tb w) := T
  have HX : Hid (Rd w a1 X) := hX
  have HO : Hid (Rd w a3 O) := hO
  have HC : Hid (RdI w a2 cuts) := hC
  obtain ⟨i0, hi, hz0, hz1, hz2⟩ := info_parts infoBs
  clear T hX hO hC
  go_enter Tryd.func4, Tryd.ntmps4
  go_wp2_with fail
  refine (awake_any w HT.out).mono ?_
  rintro e w0 ⟨rfl, hb0⟩
  have HB0 : Hid (Below w.heap.size w w0) := hb0
  clear hb0
  go_wp2_with fail
  obtain ⟨x1, hx1⟩ : ∃ W, W = w0.alloc (.cells #[prV ⟨a1, c1, X⟩] 23) := ⟨_, rfl⟩
  have hx1' : x1 = w0.alloc (.cells #[.slice a1 X.length c1] 23) := hx1
  obtain ⟨hb1, hp1⟩ := one_pts w0 23 ⟨a1, c1, X⟩ x1 hx1 ⟨HX.out.below HB0.out (Nat.le_refl _), s1, by show c1 ≤ _; omega⟩
  rw [← hx1']
  have C1 := ssum_any h (some ⟨w0.heap.size, 0, none⟩) 1 _ x1 ((HT.out.below HB0.out).below hb1) hp1 (by simp) (by simp [cat]; omega)
  have ecat : cat [(⟨a1, c1, X⟩ : Prt)] = X := by simp [cat]
  rw [ecat] at C1
  refine C1.mono ?_
  rintro e w2 ⟨aw, rfl, ho2, hb2⟩
  have HW2 : Hid (Rd w2 aw (sumF h X)) := ho2.rd
  have HB2 : Hid (Below w.heap.size w w2) := HB0.out.trans ((hb1.trans (hb2.mono hb1.size)).mono HB0.out.size)
  clear C1 ecat ho2 hb2 hb1 hp1 hx1 hx1'
  have HT2 : Hid (Tb w2) := HT.out.below HB2.out
  by_cases hh : isH h
  · go_wp2_with fail
    refine (new_any h w2 hh HT2.out).mono ?_
    rintro e w3 ⟨rfl, hs3, hb3⟩
    have HS3 : Hid (Sta w3 w2.heap.size h (X.take 0)) := hs3
    have HB3 : Hid (Below w2.heap.size w2 w3) := hb3
    have hg7 := HT2.out.seven
    have HX2 : Hid (Rd w2 a1 X) := HX.out.below HB2.out (Nat.le_refl _)
    have HO2 : Hid (Rd w2 a3 O) := HO.out.below HB2.out (Nat.le_refl _)
    have HC2 : Hid (∃ g off : Nat, (cuts ≠ [] → a2 = some ⟨g, off, none⟩) ∧ ∀ j, j < cuts.length → w2.cell? ⟨g, off + j, none⟩ = some (.int .i64 (cuts.getD j 0))) := by
      rcases HC.out.1 with h0 | ⟨g, off, e, hc⟩
      · subst h0; exact ⟨0, 0, fun hne => absurd rfl hne, fun j hj => by simp at hj⟩
      · exact ⟨g, off, fun _ => e, fun j hj => cell_but (hc j hj) fun hg => HB2.out.block g hg⟩
    have HCr : Hid (∀ j, j < cuts.length → -9223372036854775808 ≤ cuts.getD j 0 ∧ cuts.getD j 0 ≤ 9223372036854775807) := fun j hj => by
      refine HC.out.2 _ ?_
      rw [List.getD_eq_getElem?_getD, List.getElem?_eq_getElem hj]
      exact List.getElem_mem hj
    clear hs3 hb3 HT HX HO HC HB0
    obtain ⟨gc, oc, hc1, hc2⟩ := HC2.out
    have Hc1 : Hid (cuts ≠ [] → a2 = some ⟨gc, oc, none⟩) := hc1
    have Hc2 : Hid (∀ j, j < cuts.length → w2.cell? ⟨gc, oc + j, none⟩ = some (.int .i64 (cuts.getD j 0))) := hc2
    clear HC2 hc1 hc2
    have hl3 : w2.heap.size < w3.heap.size := HS3.out.lt
    generalize hb0 : w2.heap.size = b0 at *
    go_wp2_with fail
    refine (size_any h w3).mono ?_
    rintro e w4 ⟨rfl, rfl⟩
    rename World => w3
    go_wp2
    have hown0 : Hid (w3.ownsRow (b0 + 1) 23 1 (.slice none 0 0) ([] : List Prt).length (([] : List Prt).map prV)) := World.ownsRow_nil _ _ _ _
    go_loopw [11, 12, 13] (fun s11 s12 s13 ws => ∃ (i pos : Nat) (ps : List Prt) (ar : Option Addr), s13 = .int .i64 (i : Int) ∧ i ≤ cuts.length ∧ ps.length ≤ i ∧ s11 = .slice ar (X.length - pos) (c1 - pos) ∧ pos ≤ X.length ∧ Hid (∀ g o, a1 = some ⟨g, o, none⟩ → pos < X.length → ar = some ⟨g, o + pos, none⟩) ∧ Hid (Sta ws b0 h (X.take pos)) ∧ Hid (ws.ownsRow (b0 + 1) 23 1 s12 ps.length (ps.map prV)) ∧ Hid (True → cat ps = X.take pos) ∧ Hid (∀ p ∈ ps, prOk w2 p) ∧ Hid (Below b0 w2 ws)) (fun _ _ s _ => cuts.length - (intOf s).toNat)
    case atStart => exact ⟨0, 0, [], a1, rfl, by omega, by simp, rfl, by omega, fun g o e _ => e, HS3, hown0, fun _ => rfl, fun p hp => by simp at hp, HB3⟩
    case round =>
      clear hown0 HS3 HB3
      obtain ⟨i, pos, ps, ar, rfl, hi1, hps, rfl, hpos, har, hst, hown, hcat, hok, hbel⟩ := hrel
      by_cases hlt : i < cuts.length
      · have hne : cuts ≠ [] := fun e => by subst e; simp at hlt
        obtain rfl := Hc1.out hne
        have gx : wr.cell? ⟨gc, oc + i, none⟩ = some (.int .i64 (cuts.getD i 0)) := cell_but (Hc2.out i hlt) fun hg => hbel.out.block gc (by omega)
        obtain ⟨hr0, hr1⟩ := HCr.out i hlt
        generalize cuts.getD i 0 = x at *
        have hkl := pk_lt x (X.length - pos + 1) (by omega)
        have CP : ∀ W, Calls Tryd.prog 18 #[.int .i64 x, .int .i64 (((X.length - pos : Nat) : Int) + 1)] W fun e w' => e = .returned (.int .i64 (pk x (X.length - pos + 1) : Nat)) ∧ w' = W := fun W => pick_any x (X.length - pos + 1) W (by omega) (by omega) hr0 hr1
        generalize pk x (X.length - pos + 1) = k at *
        obtain ⟨pc, hpc⟩ : ∃ pc, pc = (X.drop pos).take k := ⟨_, rfl⟩
        have hpl : pc.length = k := by rw [hpc]; simp; omega
        have hrp : Rd w2 ar pc := by rw [hpc]; exact HX2.out.part pos k (by omega) ar har.out
        have Htk : Hid (True → X.take (pos + k) = X.take pos ++ pc) := fun _ => by rw [hpc, List.take_add]
        have hpo : prOk w2 ⟨ar, c1 - pos, pc⟩ := ⟨hrp, by show pc.length ≤ c1 - pos; omega, by show c1 - pos ≤ _; omega⟩
        have hpv : prV ⟨ar, c1 - pos, pc⟩ = .slice ar k (c1 - pos) := by unfold prV; rw [hpl]
        have hsh : ∀ W, (Instr.sliceAt 23 (.slice ar (X.length - pos) (c1 - pos)) none (some (.int .i64 (k : Int))) none).run Tryd.prog W = .ok (.slice ar k (c1 - pos)) W := fun W => slice_high ar (X.length - pos) (c1 - pos) k W (by omega)
        obtain ⟨ar2, hsl, har2⟩ := slice_low' ar (X.length - pos) (c1 - pos) k (by omega) (by omega)
        have Har2 : Hid (∀ g o, a1 = some ⟨g, o, none⟩ → pos + k < X.length → ar2 = some ⟨g, o + (pos + k), none⟩) := fun g o e hl => by
          rw [har2 g (o + pos) (har.out g o e (by omega)) (by omega), Nat.add_assoc]
        have Hhok : Hid (∀ p ∈ ps ++ [⟨ar, c1 - pos, pc⟩], prOk w2 p) := fun p hp => by
          rcases List.mem_append.1 hp with hp | hp
          · exact hok.out p hp
          · obtain rfl := List.mem_singleton.1 hp; exact hpo
        have Hhcat : Hid (True → cat (ps ++ [⟨ar, c1 - pos, pc⟩]) = X.take (pos + k)) := fun _ => by
          rw [cat_append, hcat.out trivial, Htk.out trivial]
          simp [cat]
        have Hrp : Hid (Rd w2 ar pc) := hrp
        have hlt5 : b0 < wr.heap.size := hst.out.lt
        clear hpc har2 hrp hpo har
        go_wp2_with fail
        refine (CP _).mono ?_
        rintro e w4 ⟨rfl, rfl⟩
        clear CP gx
        rename World => wr
        go_wp2_with (at_builtin; refine wpList_append_own_wide _ rfl (.tmp 64) (.tmp 68) 34 rfl (b0 + 1) 23 i0 (.slice none 0 0) 1 24 Tryd.underlying34 hi hz0 hz1 hz2 rfl (by decide) _ ps.length _ rfl (hown.out.alloc _) ⟨wr.heap.size, 0, none⟩ 1 1 [.slice ar k (c1 - pos)] rfl rfl (by intro t u ht; match t, ht with | 0, ht => simp at ht; subst ht; simp [Addr.add]) (by intro u hu; simp at hu; subst hu; rfl) (by unfold maxLen; omega) (by omega) (by simp; omega) ?_; intro v5 w5 hown5 hgrow5 _)
        have hB5 : Below (b0 + 1) wr w5 := ((alloc_below wr _).mono hlt5).grown hgrow5 (by rw [alloc_size]; omega) (own_block hown.out)
        have HB5 : Hid (Below b0 w2 w5) := hbel.out.trans (hB5.mono (by omega))
        have HS5 : Hid (Sta w5 b0 h (X.take pos)) := Cl.below hst.out hB5 (by omega)
        have Hown5 : Hid (w5.ownsRow (b0 + 1) 23 1 v5 (ps ++ [(⟨ar, c1 - pos, pc⟩ : Prt)]).length ((ps ++ [(⟨ar, c1 - pos, pc⟩ : Prt)]).map prV)) := by
          rw [List.length_append, List.map_append]
          show w5.ownsRow (b0 + 1) 23 1 v5 (ps.length + 1) (ps.map prV ++ [prV _])
          rw [hpv]
          exact hown5
        clear hB5 hown5 hgrow5 hst hown hbel hsh hcat hok
        have CW := write_any b0 h (X.take pos) pc ar (c1 - pos) w5 HS5.out hh (HT2.out.below (hb0 ▸ HB5.out)) hg7 (Hrp.out.below HB5.out (by omega)) (Hrp.out.off b0 (by omega)) (by omega) (by rw [List.length_take]; omega) (by omega) (by omega)
        rw [hpl] at CW
        refine CW.mono ?_
        rintro e w6 ⟨rfl, hs6, hb6⟩
        rw [← Htk.out trivial] at hs6
        have HS6 : Hid (Sta w6 b0 h (X.take (pos + k))) := hs6
        have HB6 : Hid (Below b0 w2 w6) := HB5.out.trans (hb6.below (by have := HB5.out.size; omega) (Nat.le_refl _))
        have Hown6 : Hid (w6.ownsRow (b0 + 1) 23 1 v5 (ps ++ [(⟨ar, c1 - pos, pc⟩ : Prt)]).length ((ps ++ [(⟨ar, c1 - pos, pc⟩ : Prt)]).map prV)) := own_but Hown5.out hb6 (by omega)
        clear CW hs6 hb6 HS5 HB5 Hown5 Hrp Htk
        have hml : (X.take (pos + k)).length ≤ X.length := by rw [List.length_take]; omega
        obtain ⟨M, hM⟩ : ∃ M, M = X.take (pos + k) := ⟨_, rfl⟩
        rw [← hM] at HS6 hml
        have HM : Hid (True → M = X.take (pos + k)) := fun _ => hM
        clear hM
        go_wp2_with fail
        refine (sum_any b0 h M w6 HS6.out hh (HT2.out.below (hb0 ▸ HB6.out)) (by omega)).mono ?_
        rintro e w7 ⟨g7, rfl, hg7', hc7, hb7⟩
        have HC7 : Hid (Rd w7 (some ⟨g7, 0, none⟩) (sumF h M)) := Own.rd (.inr ⟨g7, rfl, hg7', hc7⟩)
        have HS7 : Hid (Sta w7 b0 h M) := Cl.below HS6.out hb7 HS6.out.lt
        have HB7 : Hid (Below b0 w2 w7) := HB6.out.trans (hb7.mono (by have := HS6.out.lt; omega))
        have Hown7 : Hid (w7.ownsRow (b0 + 1) 23 1 v5 (ps ++ [(⟨ar, c1 - pos, pc⟩ : Prt)]).length ((ps ++ [(⟨ar, c1 - pos, pc⟩ : Prt)]).map prV)) := own_below Hown6.out hb7 (Nat.le_refl _)
        have hg70 : b0 < g7 := by have := HS6.out.lt; omega
        clear hc7 hb7 HS6 HB6 Hown6 hsl
        by_cases hev : i % 2 = 0
        · have hevI : Int.tmod (i : Int) 2 = 0 := by rw [Int.tmod_eq_emod_of_nonneg (by omega)]; omega
          go_wp2_with fail
          refine (copy_any b0 h M w7 HS7.out hh).mono ?_
          rintro e w8 ⟨rfl, hs8, hb8⟩
          have HS8 : Hid (Sta w8 w7.heap.size h M) := hs8
          have HS8b : Hid (Sta w8 b0 h M) := Cl.below HS7.out hb8 HS7.out.lt
          have HB8 : Hid (Below b0 w2 w8) := HB7.out.trans (hb8.mono (by have := HS7.out.lt; omega))
          have HC8 : Hid (Rd w8 (some ⟨g7, 0, none⟩) (sumF h M)) := HC7.out.below hb8 (Nat.le_refl _)
          have Hown8 : Hid (w8.ownsRow (b0 + 1) 23 1 v5 (ps ++ [(⟨ar, c1 - pos, pc⟩ : Prt)]).length ((ps ++ [(⟨ar, c1 - pos, pc⟩ : Prt)]).map prV)) := own_below Hown7.out hb8 (Nat.le_refl _)
          have Hblk8 : Hid (∀ kk, v5.ownBlock = some kk → kk < w7.heap.size) := fun kk hk => (Hown7.out.lt kk hk).2
          have hoff8 : Hid (Off (some ⟨g7, 0, none⟩) (sumF h M) w7.heap.size) := HC7.out.off _ (Nat.le_refl _)
          have hl7 : b0 < w7.heap.size := HS7.out.lt
          clear hs8 hb8 HS7 HC7 Hown7 HB7
          generalize w7.heap.size = bc at *
          go_wp2_with fail
          refine (write_any bc h M O a3 c3 w8 HS8.out hh (HT2.out.below (hb0 ▸ HB8.out)) (by omega) (HO2.out.below HB8.out (by omega)) (HO2.out.off bc (by omega)) s3 (by omega) (by omega) (by omega)).mono ?_
          rintro e w9 ⟨rfl, hs9, hb9⟩
          have HS9b : Hid (Sta w9 b0 h M) := hb9.other HS8b.out (by omega)
          have HB9 : Hid (Below b0 w2 w9) := HB8.out.trans (hb9.below (by have := HB8.out.size; omega) (by omega))
          have HC9 : Hid (Rd w9 (some ⟨g7, 0, none⟩) (sumF h M)) := HC8.out.but hb9 hoff8.out
          have Hown9 : Hid (w9.ownsRow (b0 + 1) 23 1 v5 (ps ++ [(⟨ar, c1 - pos, pc⟩ : Prt)]).length ((ps ++ [(⟨ar, c1 - pos, pc⟩ : Prt)]).map prV)) := own_but' Hown8.out hb9 (fun kk hk => by have := Hblk8.out kk hk; omega)
          clear hs9 hb9 HS8 HS8b HB8 HC8 Hown8 Hblk8 hoff8
          go_wp2_with fail
          refine (write_any b0 h M [] none 0 w9 HS9b.out hh (HT2.out.below (hb0 ▸ HB9.out)) (by omega) (.inl rfl) (fun _ hne _ => absurd rfl hne) (by simp) (by omega) (by simp) (by omega)).mono ?_
          rintro e wA ⟨rfl, hsA, hbA⟩
          rw [List.append_nil] at hsA
          have HS7 : Hid (Sta wA b0 h M) := hsA
          have HB7 : Hid (Below b0 w2 wA) := HB9.out.trans (hbA.below (by have := HB9.out.size; omega) (by omega))
          have HC7 : Hid (Rd wA (some ⟨g7, 0, none⟩) (sumF h M)) := HC9.out.but hbA (fun a _ e => by cases e; show g7 ≠ b0; omega)
          have Hown7 : Hid (wA.ownsRow (b0 + 1) 23 1 v5 (ps ++ [(⟨ar, c1 - pos, pc⟩ : Prt)]).length ((ps ++ [(⟨ar, c1 - pos, pc⟩ : Prt)]).map prV)) := own_but Hown9.out hbA (by omega)
          clear hsA hbA HS9b HB9 HC9 Hown9
          rename World => w7
          go_wp2_with fail
          refine (sum_any b0 h M w7 HS7.out hh (HT2.out.below (hb0 ▸ HB7.out)) (by omega)).mono ?_
          rintro e wB ⟨gB, rfl, hgB, hcB, hbB⟩
          have HCB : Rd wB (some ⟨gB, 0, none⟩) (sumF h M) := Own.rd (.inr ⟨gB, rfl, hgB, hcB⟩)
          have HC7B : Rd wB (some ⟨g7, 0, none⟩) (sumF h M) := HC7.out.below hbB (Nat.le_refl _)
          have HSB : Hid (Sta wB b0 h M) := Cl.below HS7.out hbB HS7.out.lt
          have HBB : Hid (Below b0 w2 wB) := HB7.out.trans (hbB.mono (by have := HS7.out.lt; omega))
          have HownB : Hid (wB.ownsRow (b0 + 1) 23 1 v5 (ps ++ [(⟨ar, c1 - pos, pc⟩ : Prt)]).length ((ps ++ [(⟨ar, c1 - pos, pc⟩ : Prt)]).map prV)) := own_below Hown7.out hbB (Nat.le_refl _)
          have SM := same_any (some ⟨g7, 0, none⟩) (some ⟨gB, 0, none⟩) (siz h) (siz h) (sumF h M) (sumF h M) wB HC7B HCB (by rw [sumF_length]; have := siz_le h; omega)
          rw [sumF_length, decide_eq_true (rfl : sumF h M = sumF h M)] at SM
          clear hcB hbB HS7 HB7 HC7 Hown7 HCB HC7B
          go_wp2_with fail
          refine SM.mono ?_
          rintro e wD ⟨rfl, q, hq⟩
          have HSD : Hid (Sta wD b0 h M) := by rw [hq]; exact HSB.out.drewN q
          have HBD : Hid (Below b0 w2 wD) := by rw [hq]; exact below_drewN HBB.out q
          have HownD : Hid (wD.ownsRow (b0 + 1) 23 1 v5 (ps ++ [(⟨ar, c1 - pos, pc⟩ : Prt)]).length ((ps ++ [(⟨ar, c1 - pos, pc⟩ : Prt)]).map prV)) := by rw [hq]; exact own_drewN HownB.out q
          clear SM hq HSB HBB HownB
          go_wp2
          refine ⟨⟨i + 1, pos + k, ps ++ [⟨ar, c1 - pos, pc⟩], ar2, by go_num, by omega, by simp; omega, by rw [Nat.sub_sub, Nat.sub_sub], by omega, Har2, ?_, HownD, Hhcat, Hhok, HBD⟩, by simp [intOf]; omega⟩
          rw [← HM.out trivial]
          exact HSD
        · have hevI : Int.tmod (i : Int) 2 = 1 := by rw [Int.tmod_eq_emod_of_nonneg (by omega)]; omega
          go_wp2_with fail
          refine (sum_any b0 h M w7 HS7.out hh (HT2.out.below (hb0 ▸ HB7.out)) (by omega)).mono ?_
          rintro e wB ⟨gB, rfl, hgB, hcB, hbB⟩
          have HCB : Rd wB (some ⟨gB, 0, none⟩) (sumF h M) := Own.rd (.inr ⟨gB, rfl, hgB, hcB⟩)
          have HC7B : Rd wB (some ⟨g7, 0, none⟩) (sumF h M) := HC7.out.below hbB (Nat.le_refl _)
          have HSB : Hid (Sta wB b0 h M) := Cl.below HS7.out hbB HS7.out.lt
          have HBB : Hid (Below b0 w2 wB) := HB7.out.trans (hbB.mono (by have := HS7.out.lt; omega))
          have HownB : Hid (wB.ownsRow (b0 + 1) 23 1 v5 (ps ++ [(⟨ar, c1 - pos, pc⟩ : Prt)]).length ((ps ++ [(⟨ar, c1 - pos, pc⟩ : Prt)]).map prV)) := own_below Hown7.out hbB (Nat.le_refl _)
          have SM := same_any (some ⟨g7, 0, none⟩) (some ⟨gB, 0, none⟩) (siz h) (siz h) (sumF h M) (sumF h M) wB HC7B HCB (by rw [sumF_length]; have := siz_le h; omega)
          rw [sumF_length, decide_eq_true (rfl : sumF h M = sumF h M)] at SM
          clear hcB hbB HS7 HB7 HC7 Hown7 HCB HC7B
          go_wp2_with fail
          refine SM.mono ?_
          rintro e wD ⟨rfl, q, hq⟩
          have HSD : Hid (Sta wD b0 h M) := by rw [hq]; exact HSB.out.drewN q
          have HBD : Hid (Below b0 w2 wD) := by rw [hq]; exact below_drewN HBB.out q
          have HownD : Hid (wD.ownsRow (b0 + 1) 23 1 v5 (ps ++ [(⟨ar, c1 - pos, pc⟩ : Prt)]).length ((ps ++ [(⟨ar, c1 - pos, pc⟩ : Prt)]).map prV)) := by rw [hq]; exact own_drewN HownB.out q
          clear SM hq HSB HBB HownB
          go_wp2
          refine ⟨⟨i + 1, pos + k, ps ++ [⟨ar, c1 - pos, pc⟩], ar2, by go_num, by omega, by simp; omega, by rw [Nat.sub_sub, Nat.sub_sub], by omega, Har2, ?_, HownD, Hhcat, Hhok, HBD⟩, by simp [intOf]; omega⟩
          rw [← HM.out trivial]
          exact HSD
      · obtain ⟨M, hM⟩ : ∃ M, M = X.take pos := ⟨_, rfl⟩
        have hml : M.length ≤ X.length := by rw [hM, List.length_take]; omega
        obtain ⟨pc, hpc⟩ : ∃ pc, pc = (X.drop pos).take (X.length - pos) := ⟨_, rfl⟩
        have hpl : pc.length = X.length - pos := by rw [hpc]; simp
        have HMX : Hid (True → M ++ pc = X) := fun _ => by rw [hM, hpc, List.take_of_length_le (l := X.drop pos) (by simp), List.take_append_drop]
        have hrp : Rd w2 ar pc := by rw [hpc]; exact HX2.out.part pos (X.length - pos) (by omega) ar har.out
        have hpo : prOk w2 ⟨ar, c1 - pos, pc⟩ := ⟨hrp, by show pc.length ≤ c1 - pos; omega, by show c1 - pos ≤ _; omega⟩
        have hpv : prV ⟨ar, c1 - pos, pc⟩ = .slice ar (X.length - pos) (c1 - pos) := by unfold prV; rw [hpl]
        have Hhok : Hid (∀ p ∈ ps ++ [⟨ar, c1 - pos, pc⟩], prOk w2 p) := fun p hp => by
          rcases List.mem_append.1 hp with hp | hp
          · exact hok.out p hp
          · obtain rfl := List.mem_singleton.1 hp; exact hpo
        have Hhcat : Hid (True → cat (ps ++ [⟨ar, c1 - pos, pc⟩]) = X) := fun _ => by
          rw [cat_append, hcat.out trivial, ← hM]
          simpa [cat] using HMX.out trivial
        have Hrp : Hid (Rd w2 ar pc) := hrp
        rw [← hM] at hst
        clear hM hpc hrp hpo har hcat hok
        have hlt5 : b0 < wr.heap.size := hst.out.lt
        go_wp2_with fail
        refine (copy_any b0 h M wr hst.out hh).mono ?_
        rintro e w8 ⟨rfl, hs8, hb8⟩
        have HS8 : Hid (Sta w8 wr.heap.size h M) := hs8
        have HS8b : Hid (Sta w8 b0 h M) := Cl.below hst.out hb8 hst.out.lt
        have HB8 : Hid (Below b0 w2 w8) := hbel.out.trans (hb8.mono (by omega))
        have Hown8 : Hid (w8.ownsRow (b0 + 1) 23 1 u12 ps.length (ps.map prV)) := own_below hown.out hb8 (Nat.le_refl _)
        have Hblk8 : Hid (∀ kk, u12.ownBlock = some kk → kk < wr.heap.size) := fun kk hk => (hown.out.lt kk hk).2
        clear hs8 hb8 hst hown hbel
        generalize wr.heap.size = bc at *
        have CW := write_any b0 h M pc ar (c1 - pos) w8 HS8b.out hh (HT2.out.below (hb0 ▸ HB8.out)) hg7 (Hrp.out.below HB8.out (by omega)) (Hrp.out.off b0 (by omega)) (by omega) (by omega) (by omega) (by omega)
        rw [hpl, HMX.out trivial] at CW
        go_wp2_with fail
        refine CW.mono ?_
        rintro e w9 ⟨rfl, hs9, hb9⟩
        have HS9 : Hid (Sta w9 b0 h X) := hs9
        have HS9c : Hid (Sta w9 bc h M) := hb9.other HS8.out (by omega)
        have HB9 : Hid (Below b0 w2 w9) := HB8.out.trans (hb9.below (by have := HB8.out.size; omega) (by omega))
        have Hown9 : Hid (w9.ownsRow (b0 + 1) 23 1 u12 ps.length (ps.map prV)) := own_but Hown8.out hb9 (by omega)
        have hlt9 : b0 < w9.heap.size := HS9.out.lt
        have hlt9c : bc < w9.heap.size := HS9c.out.lt
        clear CW hs9 hb9 HS8 HS8b HB8 Hown8
        go_wp2_with (first | (at_builtin; refine wpList_append_own_wide _ rfl (.tmp 101) (.tmp 103) 34 rfl (b0 + 1) 23 i0 (.slice none 0 0) 1 24 Tryd.underlying34 hi hz0 hz1 hz2 rfl (by decide) _ ps.length _ rfl (Hown9.out.alloc _) ⟨w9.heap.size, 0, none⟩ 1 1 [.slice ar (X.length - pos) (c1 - pos)] rfl rfl (by intro t u ht; match t, ht with | 0, ht => simp at ht; subst ht; simp [Addr.add]) (by intro u hu; simp at hu; subst hu; rfl) (by unfold maxLen; omega) (by omega) (by simp; omega) ?_; intro v5 w5 hown5 hgrow5 _) | fail)
        have hB5 : Below (b0 + 1) w9 w5 := ((alloc_below w9 _).mono hlt9).grown hgrow5 (by rw [alloc_size]; omega) (own_block Hown9.out)
        have hbc5 : w5.heap[bc]? = w9.heap[bc]? := by
          rw [hgrow5.block bc (by rw [alloc_size]; omega) (fun e => by have := Hblk8.out bc e.symm; omega)]
          exact (alloc_below w9 _).block bc hlt9c
        have HS5c : Hid (Sta w5 bc h M) := by
          obtain ⟨t, ht⟩ := HS9c.out
          exact ⟨t, by rw [hbc5]; exact ht⟩
        have HB5 : Hid (Below b0 w2 w5) := HB9.out.trans (hB5.mono (by omega))
        have HS5 : Hid (Sta w5 b0 h X) := Cl.below HS9.out hB5 (by omega)
        have Hown5 : Hid (w5.ownsRow (b0 + 1) 23 1 v5 (ps ++ [(⟨ar, c1 - pos, pc⟩ : Prt)]).length ((ps ++ [(⟨ar, c1 - pos, pc⟩ : Prt)]).map prV)) := by
          rw [List.length_append, List.map_append]
          show w5.ownsRow (b0 + 1) 23 1 v5 (ps.length + 1) (ps.map prV ++ [prV _])
          rw [hpv]
          exact hown5
        have hne5 : ∀ kk, v5.ownBlock = some kk → kk ≠ bc := fun kk hk e => by
          subst e
          obtain ⟨p0, hp0⟩ : ∃ p0, ((ps ++ [(⟨ar, c1 - pos, pc⟩ : Prt)]).map prV)[0]? = some (prV p0) := by
            cases ps with
            | nil => exact ⟨_, rfl⟩
            | cons p r => exact ⟨p, rfl⟩
          have h1 := Hown5.out.cells hk 0 _ hp0
          have h2 := stV_hash HS5c.out
          rw [Addr.add_mid, h2] at h1
          unfold prV at h1
          cases h1
        clear hB5 hbc5 hown5 hgrow5 HS9 HS9c HB9 Hown9
        have hPSl : (ps ++ [(⟨ar, c1 - pos, pc⟩ : Prt)]).length ≤ 100000001 := by simp; omega
        generalize ps ++ [(⟨ar, c1 - pos, pc⟩ : Prt)] = PS at *
        refine (write_any bc h M O a3 c3 w5 HS5c.out hh (HT2.out.below (hb0 ▸ HB5.out)) (by omega) (HO2.out.below HB5.out (by omega)) (HO2.out.off bc (by omega)) s3 (by omega) (by omega) (by omega)).mono ?_
        rintro e w6 ⟨rfl, hs6, hb6⟩
        have HS6c : Hid (Sta w6 bc h (M ++ O)) := hs6
        have HS6 : Hid (Sta w6 b0 h X) := hb6.other HS5.out (by omega)
        have HB6 : Hid (Below b0 w2 w6) := HB5.out.trans (hb6.below (by have := HB5.out.size; omega) (by omega))
        have Hown6 : Hid (w6.ownsRow (b0 + 1) 23 1 v5 PS.length (PS.map prV)) := own_but' Hown5.out hb6 hne5
        clear hs6 hb6 HS5 HS5c HB5 Hown5
        go_wp2_with fail
        refine (sum_any b0 h X w6 HS6.out hh (HT2.out.below (hb0 ▸ HB6.out)) (by omega)).mono ?_
        rintro e w7 ⟨g7, rfl, hg7', hc7, hb7⟩
        have HC7 : Hid (Rd w7 (some ⟨g7, 0, none⟩) (sumF h X)) := Own.rd (.inr ⟨g7, rfl, hg7', hc7⟩)
        have HS7c : Hid (Sta w7 bc h (M ++ O)) := Cl.below HS6c.out hb7 HS6c.out.lt
        have HB7 : Hid (Below b0 w2 w7) := HB6.out.trans (hb7.mono (by have := HS6.out.lt; omega))
        have Hown7 : Hid (w7.ownsRow (b0 + 1) 23 1 v5 PS.length (PS.map prV)) := own_below Hown6.out hb7 (Nat.le_refl _)
        have hg70 : bc < g7 := by have := HS6c.out.lt; omega
        clear hc7 hb7 HS6 HS6c HB6 Hown6
        have CX := write_any bc h (M ++ O) pc ar (c1 - pos) w7 HS7c.out hh (HT2.out.below (hb0 ▸ HB7.out)) (by omega) (Hrp.out.below HB7.out (by omega)) (Hrp.out.off bc (by omega)) (by omega) (by rw [List.length_append]; omega) (by omega) (by omega)
        rw [hpl] at CX
        go_wp2_with fail
        refine CX.mono ?_
        rintro e w8 ⟨rfl, hs8, hb8⟩
        have HC8 : Hid (Rd w8 (some ⟨g7, 0, none⟩) (sumF h X)) := HC7.out.but hb8 (fun a _ e => by cases e; show g7 ≠ bc; omega)
        have HB8 : Hid (Below b0 w2 w8) := HB7.out.trans (hb8.below (by have := HB7.out.size; omega) (by omega))
        have Hown8 : Hid (w8.ownsRow (b0 + 1) 23 1 v5 PS.length (PS.map prV)) := own_but' Hown7.out hb8 hne5
        clear CX hs8 hb8 HS7c HB7 Hown7 HC7
        obtain ⟨pa, pcap, rfl, hpts⟩ := own_pts Hown8.out (fun p hp => ⟨(Hhok.out p hp).1.below HB8.out (by omega), (Hhok.out p hp).2⟩)
        have CS := ssum_any h pa pcap _ w8 (HT2.out.below (hb0 ▸ HB8.out)) hpts (by omega) (by rw [Hhcat.out trivial]; omega)
        rw [Hhcat.out trivial] at CS
        go_wp2_with fail
        refine CS.mono ?_
        rintro e w9 ⟨ab, rfl, ho9, hb9⟩
        have HC9 : Hid (Rd w9 (some ⟨g7, 0, none⟩) (sumF h X)) := HC8.out.below hb9 (Nat.le_refl _)
        have HD9 : Hid (Rd w9 ab (sumF h X)) := ho9.rd
        have HB9 : Hid (Below b0 w2 w9) := HB8.out.trans (hb9.mono (by have := HB8.out.size; omega))
        have HW9 : Hid (Rd w9 aw (sumF h X)) := HW2.out.below HB9.out (by omega)
        clear CS ho9 hb9 hpts HC8 HB8 Hown8
        have SM1 : Calls Tryd.prog 15 #[.slice (some ⟨g7, 0, none⟩) (siz h) (siz h), .slice aw (siz h) (siz h)] w9 fun e w' => e = .returned (.bool true) ∧ ∃ q2, w' = w9.drewN q2 := by
          have S := same_any (some ⟨g7, 0, none⟩) aw (siz h) (siz h) (sumF h X) (sumF h X) w9 HC9.out HW9.out (by rw [sumF_length]; have := siz_le h; omega)
          rw [sumF_length, decide_eq_true (rfl : sumF h X = sumF h X)] at S
          exact S
        have SM2 : ∀ q, Calls Tryd.prog 15 #[.slice ab (siz h) (siz h), .slice aw (siz h) (siz h)] (w9.drewN q) fun e w' => e = .returned (.bool true) ∧ ∃ q2, w' = (w9.drewN q).drewN q2 := fun q => by
          have S := same_any ab aw (siz h) (siz h) (sumF h X) (sumF h X) (w9.drewN q) (HD9.out.drewN q) (HW9.out.drewN q) (by rw [sumF_length]; have := siz_le h; omega)
          rw [sumF_length, decide_eq_true (rfl : sumF h X = sumF h X)] at S
          exact S
        go_wp2_with fail
        refine SM1.mono ?_
        rintro e wA ⟨rfl, q, rfl⟩
        go_wp2_with fail
        refine (SM2 _).mono ?_
        rintro e wB ⟨rfl, q2, rfl⟩
        go_wp2
        go_ret
        refine ⟨rfl, ?_⟩
        exact below_drewN (HB2.out.trans (HB9.out.mono (hb0 ▸ HB2.out.size))) (q + q2)
  · have hz := siz_not hh X
    have hbz : blk h = 0 := by
      have h1 : h ≠ 1 := fun e => hh (.inl e)
      have h2 : h ≠ 2 := fun e => hh (.inr (.inl e))
      have h3 : h ≠ 3 := fun e => hh (.inr (.inr e))
      unfold blk; rw [if_neg h1, if_neg h2, if_neg h3]
    have CS : ∀ W, Calls Tryd.prog 10 #[.int .i64 h] W fun e w' => e = .returned (.int .i64 0) ∧ w' = W := fun W => by
      have := size_any h W
      rw [hz.1] at this
      exact this
    have CB : ∀ W, Calls Tryd.prog 17 #[.int .i64 h] W fun e w' => e = .returned (.int .i64 0) ∧ w' = W := fun W => by
      have := block_any h W
      rw [hbz] at this
      exact this
    rw [hz.1]
    clear hz hbz
    go_wp2_with fail
    refine (new_none h w2 hh).mono ?_
    rintro e w3 ⟨rfl, hb3⟩
    have HB3 : Hid (Below w.heap.size w w3) := HB2.out.trans (hb3.mono HB2.out.size)
    clear hb3
    go_wp2_with fail
    refine (CS w3).mono ?_
    rintro e w4 ⟨rfl, rfl⟩
    go_wp2_with fail
    refine (CB _).mono ?_
    rintro e w5 ⟨rfl, rfl⟩
    go_wp2
    go_ret
    exact ⟨rfl, HB3.out⟩
end Go.Proofs.YtiklijaabeaebaaDoor
