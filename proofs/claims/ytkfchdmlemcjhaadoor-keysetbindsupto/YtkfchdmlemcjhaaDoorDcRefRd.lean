import Derived.Test.YtkfchdmlemcjhaaDoorDcRefB2
namespace Go.Proofs.YtkfchdmlemcjhaaDoor.Dec
open Go.RowKit

abbrev Z46 : Obj := .cells #[.bool false, .slice none 0 0, .int .i64 0, .bool false, .slice none 0 0, .bool false, .string ⟨#[]⟩] 74
abbrev N46 (m : Bool) (o : Int) (p pl : Bool) (t : List UInt8) : Obj := .cells #[.bool m, .slice none 0 0, .int .i64 o, .bool p, .slice none 0 0, .bool pl, .string ⟨t.toArray⟩] 74
abbrev W46 (w : World) (m : Bool) (o : Int) (p pl : Bool) (t : List UInt8) : World := (w.alloc Z46).alloc (N46 m o p pl t)

theorem ext_eq (l : List UInt8) (k j : Nat) : (⟨l.toArray⟩ : ByteArray).extract k j = ⟨((l.drop k).take (j - k)).toArray⟩ := by
  rw [Lib.extract_eq]

theorem u8_eqk (x k : UInt8) : ((x.toNat : Int) == (k.toNat : Int)) = decide (x = k) := by
  by_cases h : x = k
  · subst h; simp
  · have : x.toNat ≠ k.toNat := fun e => h (UInt8.toNat_inj.1 e)
    simp [h]; omega

/-- Is the byte at the place this one? -/
def isAt (l : List UInt8) (k : Nat) (c : UInt8) : Bool := decide ((l.drop k).head? = some c)

/-- What a walk may meet where it asks for the byte at a place. -/
theorem atK (l : List UInt8) (k : Nat) : (¬ k < l.length ∧ Hid (∀ c, isAt l k c = false)) ∨ (k < l.length ∧ ∃ c : UInt8, ∃ h : k < (⟨l.toArray⟩ : ByteArray).size, (⟨l.toArray⟩ : ByteArray)[k] = c ∧ Hid (∀ d : UInt8, ((c.toNat : Int) == (d.toNat : Int)) = isAt l k d)) := by
  by_cases h : k < l.length
  · refine .inr ⟨h, l[k], by show k < l.toArray.size; simpa using h, rfl, fun d => ?_⟩
    rw [u8_eqk]
    unfold isAt
    rw [List.head?_drop, List.getElem?_eq_getElem h]
    simp
  · refine .inl ⟨h, fun c => ?_⟩
    unfold isAt
    rw [List.drop_eq_nil_of_le (by omega)]
    simp

def fr (l : List UInt8) : Nat := if isAt l 0 45 then 1 else 0
theorem fr_cut (l : List UInt8) : cutL l = l.drop (fr l) := by
  unfold cutL fr isAt
  by_cases h : l.head? = some 45
  · rw [if_pos h, if_pos (by simpa using h)]; simp
  · rw [if_neg h, if_neg (by simpa using h)]; simp

/-- A digit as a whole number, as the model's value. -/
def DV (c : UInt8) : Value := .int .i64 ((c.toNat : Int) - 48)

def aheadN (g f : List UInt8) : Int := (g.length : Int) - (((g ++ f).length : Int) - ((tl (g ++ f)).length : Int))

/-- What Read does: none, or the number. -/
def RPost (l : List UInt8) (w : World) (e : Ending) (w' : World) : Prop :=
  ((pcut l = none ∧ ∃ (m : Bool) (a1 : Option Addr) (n1 c1 : Nat) (o : Int) (p : Bool) (a2 : Option Addr) (n2 c2 : Nat) (pl : Bool) (t : ByteArray), e = .returned (.tuple #[.agg #[.bool m, .slice a1 n1 c1, .int .i64 o, .bool p, .slice a2 n2 c2, .bool pl, .string t], .bool false])) ∨
    (∃ m g f p d s1 s2, pcut l = some (m, g, f, p, d) ∧ e = .returned (.tuple #[.agg #[.bool m, s1, .int .i64 (aheadN g f), .bool p, s2, .bool (f.isEmpty && d.isEmpty), .string ⟨g.toArray⟩], .bool true]) ∧
      w'.ownsRow (w.heap.size + 2) 3 1 s1 (tr (tl (g ++ f))).length ((tr (tl (g ++ f))).map DV) ∧ w'.ownsRow (w.heap.size + 2) 3 1 s2 (tl d).length ((tl d).map DV))) ∧ Below w.heap.size w w'

theorem rbox_a (w : World) (m : Bool) (o : Int) (p pl : Bool) (t : List UInt8) : RBox (W46 w m o p pl t) w.heap.size false (.slice none 0 0) 0 false (.slice none 0 0) false [] := by
  constructor <;> first | (go_simp; done) | (simp; done)
theorem rbox_b (w : World) (m : Bool) (o : Int) (p pl : Bool) (t : List UInt8) : RBox (W46 w m o p pl t) (w.heap.size + 1) m (.slice none 0 0) o p (.slice none 0 0) pl t := by
  constructor <;> first | (go_simp; done) | (simp; done)
theorem below_W46 (w : World) (m : Bool) (o : Int) (p pl : Bool) (t : List UInt8) : Below w.heap.size w (W46 w m o p pl t) := by
  (repeat' (first | with_reducible assumption | with_reducible exact Below.refl _ _ | with_reducible exact Nat.le_refl _ | with_reducible refine Below.setCell ?_ ?_ _ | with_reducible refine Below.alloc ?_ ?_ _ | with_reducible apply Below.drew | with_reducible apply below_drewN | omega | (simp; done) | (simp; omega)))

/-- The length of a list in a cell. -/
def lenAt : Option Value → Nat
  | some (.slice _ n _) => n
  | _ => 0

theorem digs_all2 (l : List UInt8) : ∀ c ∈ digs l, isD c = true := by
  intro c hc
  obtain ⟨i, hi, e⟩ := List.getElem_of_mem hc
  have hi' : i < nd l := by rw [← digs_length]; exact hi
  have hl := nd_le l
  have hil : i < l.length := by omega
  have e1 : (digs l)[i] = l[i] := by
    have e2 : (digs l)[i]? = l[i]? := by unfold digs; rw [List.getElem?_take_of_lt hi']
    rw [List.getElem?_eq_getElem hi, List.getElem?_eq_getElem hil] at e2
    exact Option.some.inj e2
  rw [← e, e1]
  exact (nd_lt l i (by omega) hil).1 hi'

theorem pcut_digs2 {l : List UInt8} {m p : Bool} {g f d : List UInt8} (h : pcut l = some (m, g, f, p, d)) : ∀ c ∈ g ++ f, isD c = true := by
  unfold pcut pcut1 pcut2 pcut3 pcut4 at h
  generalize cutL l = l1 at h
  split at h
  · cases h
  split at h
  · cases h
  split at h
  · cases h
  split at h
  · cases h
    intro c hc
    rcases List.mem_append.1 hc with hc | hc
    · exact digs_all2 _ c hc
    · unfold cutF at hc; split at hc
      · exact digs_all2 _ c hc
      · simp at hc
  · cases h

set_option maxHeartbeats 8000000 in
set_option maxRecDepth 10000 in
theorem rread_any (l : List UInt8) (w : World) (hlen : l.length ≤ 1099511627776) :
    Calls Tryd.prog 39 #[.string ⟨l.toArray⟩] w fun e w' => RPost l w e w' := by
  obtain ⟨mb, hmb⟩ : ∃ mb, isAt l 0 45 = mb := ⟨_, rfl⟩
  obtain ⟨k0, hk0⟩ : ∃ k0 : Nat, k0 = if mb then 1 else 0 := ⟨_, rfl⟩
  have Hmb : Hid (isAt l 0 45 = mb) := hmb
  have Hk0 : Hid (k0 = if mb then 1 else 0) := hk0
  have Hfr : Hid (fr l = k0) := by show _ = _; unfold fr; rw [hmb, hk0]
  have hfl : k0 ≤ l.length := by
    rw [hk0]
    cases mb
    · simp
    · cases l with
      | nil => unfold isAt at hmb; simp at hmb
      | cons x y => simp
  clear hmb hk0
  go_enter Tryd.func39, Tryd.ntmps39
  go_upto_region 3 with fail
  go_cut [23] from 14 to 23 (fun s wx => s = .bool mb ∧ wx = W46 w false 0 false true [])
  case first =>
    rcases atK l 0 with ⟨h0, H⟩ | ⟨h0, c, hsz, gx, H⟩
    · have Hb : Hid (false = mb) := (H.out 45).symm.trans Hmb.out
      clear H
      go_wp2_with fail
      go_meet
      exact ⟨by rw [Hb.out], rfl⟩
    · have hq : ((c.toNat : Int) == 45) = mb := (H.out 45).trans Hmb.out
      clear H
      go_wp2_with fail
      go_meet
      exact ⟨rfl, rfl⟩
  case rest =>
  obtain ⟨rfl, rfl⟩ := hcut
  go_upto_if 23 with fail
  go_cut [5] from 24 to 26 (fun s wx => s = .int .i64 k0 ∧ wx = W46 w mb 0 false true [])
  case first =>
    cases mb
    · have Hk : Hid (k0 = 0) := Hk0
      go_wp2_with fail
      go_meet
      exact ⟨by rw [Hk.out]; rfl, rfl⟩
    · have Hk : Hid (k0 = 1) := Hk0
      go_wp2_with fail
      go_meet
      exact ⟨by rw [Hk.out]; rfl, rfl⟩
  case rest =>
  obtain ⟨rfl, rfl⟩ := hcut
  go_wp2_with fail
  refine (many_any l k0 _ (by omega) hfl).mono ?_
  rintro e w' ⟨rfl, rfl⟩
  obtain ⟨k1, hk1⟩ : ∃ k1, k1 = k0 + nd (l.drop k0) := ⟨_, rfl⟩
  obtain ⟨g, hg⟩ : ∃ g, g = digs (l.drop k0) := ⟨_, rfl⟩
  have hgl : k0 + g.length = k1 := by rw [hg, digs_length, hk1]
  have hk1l : k1 ≤ l.length := by have := nd_le (l.drop k0); rw [List.length_drop] at this; omega
  have Hx1 : Hid ((⟨l.toArray⟩ : ByteArray).extract k0 k1 = ⟨g.toArray⟩) := by
    show _ = _
    rw [ext_eq, hg, hk1]; unfold digs; rw [Nat.add_sub_cancel_left]
  have Hr1 : Hid (rst (l.drop k0) = l.drop k1) := by show _ = _; unfold rst; rw [List.drop_drop, hk1]
  have Hp1 : Hid (pcut l = pcut2 mb g (l.drop k1)) := by
    show _ = _
    unfold pcut pcut1
    rw [fr_cut, Hfr.out, Hr1.out, hg]
    have : decide (l.head? = some 45) = mb := by rw [← Hmb.out]; unfold isAt; simp
    rw [this]
  have Hg : Hid (g = digs (l.drop k0)) := hg
  have Hgl : Hid (k0 + g.length = k1) := hgl
  have hgk : k0 ≤ k1 := by omega
  rw [← hk1]
  clear hk1 hg hgl
  have hat : isAt l k0 48 = decide (g.head? = some 48) ∨ g = [] := by
    have e := Hg.out
    unfold digs at e
    rcases Nat.eq_zero_or_pos (nd (l.drop k0)) with h | h
    · right; rw [e, h]; rfl
    · left
      unfold isAt
      rw [e]
      cases hd : l.drop k0 with
      | nil => simp
      | cons x y =>
        rw [hd] at h
        obtain ⟨n, hn⟩ : ∃ n, nd (x :: y) = n + 1 := ⟨nd (x :: y) - 1, by omega⟩
        rw [hn]; rfl
  obtain ⟨bb, hbb⟩ : ∃ bb, badW g = bb := ⟨_, rfl⟩
  have hcase : (((k1 : Int) == (k0 : Int)) = true ∧ Hid (bb = true)) ∨ (((k1 : Int) == (k0 : Int)) = false ∧ k0 < l.length ∧ ((isAt l k0 48 = true ∧ k0 + 1 < k1 ∧ Hid (bb = true)) ∨ (isAt l k0 48 = true ∧ ¬ k0 + 1 < k1 ∧ Hid (bb = false)) ∨ (isAt l k0 48 = false ∧ Hid (bb = false)))) := by
    have hl := Hgl.out
    rw [← hbb]
    rcases hat with hat | hat
    · by_cases hz : g = []
      · left
        subst hz
        exact ⟨by simp at hl; simp [hl], rfl⟩
      · have hpos : 0 < g.length := List.length_pos_iff.2 hz
        right
        refine ⟨by simp; omega, by omega, ?_⟩
        by_cases h48 : g.head? = some 48
        · have h1 : isAt l k0 48 = true := by rw [hat]; exact decide_eq_true h48
          by_cases h2 : 1 < g.length
          · left
            refine ⟨h1, by omega, ?_⟩
            show _ = _
            unfold badW; simp [h48, h2]
          · right; left
            refine ⟨h1, by omega, ?_⟩
            show _ = _
            unfold badW; simp [hz, h2]
        · right; right
          refine ⟨by rw [hat]; exact decide_eq_false h48, ?_⟩
          show _ = _
          unfold badW; simp [hz, h48]
    · left
      subst hat
      exact ⟨by simp at hl; simp [hl], rfl⟩
  have Hbb : Hid (badW g = bb) := hbb
  clear hat hbb
  -- the first digits: none, or a 0 ahead of another one
  go_upto_region 8 with fail
  go_cut [45] from 31 to 45 (fun s wx => s = .bool bb ∧ wx = W46 w mb 0 false true [])
  case first =>
    rcases hcase with ⟨h1, Hb⟩ | ⟨h1, hlt, h⟩
    · go_wp2_with fail
      go_meet
      exact ⟨by rw [Hb.out], rfl⟩
    · rcases atK l k0 with ⟨h0, H⟩ | ⟨h0, c, hsz, gx, H⟩
      · exact absurd hlt h0
      have hq : ((c.toNat : Int) == 48) = isAt l k0 48 := H.out 48
      clear H
      rcases h with ⟨h2, h3, Hb⟩ | ⟨h2, h3, Hb⟩ | ⟨h2, Hb⟩
      all_goals
        rw [h2] at hq
        clear h2
        go_wp2_with fail
        go_meet
        exact ⟨by first | (rw [Hb.out]; done) | (rw [Hb.out]; simp; omega), rfl⟩
  case rest =>
  obtain ⟨rfl, rfl⟩ := hcut
  clear hcase
  cases bb
  case true =>
    have Hnone : Hid (pcut l = none) := by show _ = _; rw [Hp1.out]; unfold pcut2; rw [if_pos Hbb.out]
    go_wp2
    (try simp only [Exit.inBlock, Exit.then])
    refine bodyPost_ret (v := .tuple #[.agg #[.bool mb, .slice none 0 0, .int .i64 0, .bool false, .slice none 0 0, .bool true, .string ⟨#[]⟩], .bool false]) ?_ rfl ⟨.inl ⟨Hnone.out, _, _, _, _, _, _, _, _, _, _, _, rfl⟩, ?_⟩
    · rw [results_cell_tmp rfl]; go_simp
    · (repeat' (first | with_reducible assumption | with_reducible exact Below.refl _ _ | with_reducible exact Nat.le_refl _ | with_reducible refine Below.setCell ?_ ?_ _ | with_reducible refine Below.alloc ?_ ?_ _ | with_reducible apply Below.drew | with_reducible apply below_drewN | omega | (simp; done) | (simp; omega)))
  have Hp2 : Hid (pcut l = pcut3 mb g (cutF (l.drop k1)).1 (cutF (l.drop k1)).2.1 (cutF (l.drop k1)).2.2) := by
    show _ = _
    rw [Hp1.out]; unfold pcut2; rw [if_neg (by rw [Hbb.out]; simp)]
  clear Hp1 Hbb
  -- a dot
  obtain ⟨bd, hbd⟩ : ∃ bd, isAt l k1 46 = bd := ⟨_, rfl⟩
  have Hbd : Hid (isAt l k1 46 = bd) := hbd
  have hoff : (k1 : Int) - (k0 : Int) = (g.length : Int) := by have := Hgl.out; omega
  clear hbd
  go_upto_region 13 with fail
  rw [Hx1.out]
  go_cut [69] from 60 to 69 (fun s wx => s = .bool bd ∧ wx = W46 w mb g.length false true g)
  case first =>
    rcases atK l k1 with ⟨h0, H⟩ | ⟨h0, c, hsz, gx, H⟩
    · have Hb : Hid (false = bd) := (H.out 46).symm.trans Hbd.out
      clear H
      go_wp2_with fail
      go_meet
      exact ⟨by rw [Hb.out], rfl⟩
    · have hq : ((c.toNat : Int) == 46) = bd := (H.out 46).trans Hbd.out
      clear H
      go_wp2_with fail
      go_meet
      exact ⟨rfl, rfl⟩
  case rest =>
  obtain ⟨rfl, rfl⟩ := hcut
  go_upto_if 69 with fail
  go_cut [5, 7, 8] from 70 to 87 (fun s5 s7 s8 wx => ∃ (k2 : Nat) (f : List UInt8), s5 = .int .i64 k2 ∧ s7 = .string ⟨(g ++ f).toArray⟩ ∧ k2 ≤ l.length ∧ g.length + f.length ≤ l.length ∧ Hid (cutF (l.drop k1) = (f, l.drop k2, true)) ∧ Hid (f.isEmpty = !bd) ∧ wx = W46 w mb g.length false (!bd) g)
  case first =>
    cases bd
    · have Hc : Hid (cutF (l.drop k1) = ([], l.drop k1, true)) := by
        show _ = _
        unfold cutF
        rw [if_neg]
        have := Hbd.out
        unfold isAt at this
        simpa using this
      have hgl : g.length ≤ l.length := by have := Hgl.out; omega
      go_wp2_with fail
      go_meet
      exact ⟨k1, [], rfl, by rw [List.append_nil], hk1l, by simpa using hgl, Hc, rfl, rfl⟩
    · have hh : (l.drop k1).head? = some 46 := by
        have := Hbd.out
        unfold isAt at this
        simpa using this
      have hk1s : k1 + 1 ≤ l.length := by
        rcases Nat.lt_or_ge k1 l.length with h | h
        · omega
        · rw [List.drop_eq_nil_of_le h] at hh; simp at hh
      obtain ⟨k2, hk2⟩ : ∃ k2, k2 = k1 + 1 + nd (l.drop (k1 + 1)) := ⟨_, rfl⟩
      obtain ⟨f, hf⟩ : ∃ f, f = digs (l.drop (k1 + 1)) := ⟨_, rfl⟩
      have hfl2 : k1 + 1 + f.length = k2 := by rw [hf, digs_length, hk2]
      have hk2l : k2 ≤ l.length := by have := nd_le (l.drop (k1 + 1)); rw [List.length_drop] at this; omega
      have Hm : Hid (∀ w, Calls Tryd.prog 46 #[.string ⟨l.toArray⟩, .int .i64 ((k1 : Int) + 1)] w fun e w' => e = .returned (.int .i64 (k2 : Int)) ∧ w' = w) := fun w => by
        have h := many_any l (k1 + 1) w (by omega) hk1s
        rw [← hk2] at h
        exact h
      have Hx2 : Hid ((⟨l.toArray⟩ : ByteArray).extract (k1 + 1) k2 = ⟨f.toArray⟩) := by
        show _ = _
        rw [ext_eq, hf, hk2]; unfold digs; rw [Nat.add_sub_cancel_left]
      have Hc : Hid (cutF (l.drop k1) = (f, l.drop k2, !f.isEmpty)) := by
        show _ = _
        unfold cutF
        rw [if_pos hh, List.tail_drop, ← hf]
        unfold rst
        rw [List.drop_drop, ← hk2]
      have Ha : Hid ((⟨g.toArray⟩ : ByteArray) ++ ⟨f.toArray⟩ = ⟨(g ++ f).toArray⟩) := app_eq g f
      have hgf : g.length + f.length ≤ l.length := by have := Hgl.out; omega
      by_cases hz : f = []
      · have hq : ((k2 : Int) == (k1 : Int) + 1) = true := by subst hz; simp at hfl2; simp; omega
        have Hnone : Hid (pcut l = none) := by show _ = _; rw [Hp2.out, Hc.out, hz]; rfl
        clear hh hk2 hf hfl2 hz
        go_wp2_with fail
        refine (Hm.out _).mono ?_
        rintro e w' ⟨rfl, rfl⟩
        go_wp2
        (try simp only [Exit.inBlock, Exit.then])
        refine bodyPost_ret (v := .tuple #[.agg #[.bool mb, .slice none 0 0, .int .i64 g.length, .bool false, .slice none 0 0, .bool false, .string ⟨g.toArray⟩], .bool false]) ?_ rfl ⟨.inl ⟨Hnone.out, _, _, _, _, _, _, _, _, _, _, _, rfl⟩, ?_⟩
        · rw [results_cell_tmp rfl]; go_simp
        · (repeat' (first | with_reducible assumption | with_reducible exact Below.refl _ _ | with_reducible exact Nat.le_refl _ | with_reducible refine Below.setCell ?_ ?_ _ | with_reducible refine Below.alloc ?_ ?_ _ | with_reducible apply Below.drew | with_reducible apply below_drewN | omega | (simp; done) | (simp; omega)))
      · have hpos : 0 < f.length := List.length_pos_iff.2 hz
        have hq : ((k2 : Int) == (k1 : Int) + 1) = false := by simp; omega
        have Hc2 : Hid (cutF (l.drop k1) = (f, l.drop k2, true)) := by show _ = _; rw [Hc.out]; simp [hz]
        have Hie : Hid (f.isEmpty = false) := by show _ = _; simpa using hz
        have hkk : k1 + 1 ≤ k2 := by omega
        clear hh hk2 hf hfl2 hz hpos
        go_wp2_with fail
        refine (Hm.out _).mono ?_
        rintro e w' ⟨rfl, rfl⟩
        go_wp2_with fail
        rw [Hx2.out, Ha.out]
        go_meet
        exact ⟨k2, f, rfl, rfl, hk2l, hgf, Hc2, Hie, rfl⟩
  case rest =>
  obtain ⟨k2, f, rfl, rfl, hk2l, hgf, Hc, Hie, rfl⟩ := hcut
  have Hp3 : Hid (pcut l = pcut4 mb g f (cutP (l.drop k2)).1 (cutP (l.drop k2)).2.1 (cutP (l.drop k2)).2.2.1 (cutP (l.drop k2)).2.2.2) := by
    show _ = _
    rw [Hp2.out, Hc.out]; rfl
  clear Hp2 Hc Hbd Hx1 Hr1 Hg hoff hk1l hgk
  -- an exponent
  obtain ⟨be, hbe⟩ : ∃ be, (isAt l k2 101 || isAt l k2 69) = be := ⟨_, rfl⟩
  have Hbe : Hid ((isAt l k2 101 || isAt l k2 69) = be) := hbe
  clear hbe
  go_upto_region 20 with fail
  go_cut [103] from 88 to 103 (fun s wx => s = .bool be ∧ wx = W46 w mb g.length false (!bd) g)
  case first =>
    rcases atK l k2 with ⟨h0, H⟩ | ⟨h0, c, hsz, gx, H⟩
    · have Hb : Hid (false = be) := by show _ = _; rw [← Hbe.out, H.out, H.out]; rfl
      clear H
      go_wp2_with fail
      go_meet
      exact ⟨by rw [Hb.out], rfl⟩
    · have hq1 : ((c.toNat : Int) == 101) = isAt l k2 101 := H.out 101
      have hq2 : ((c.toNat : Int) == 69) = isAt l k2 69 := H.out 69
      have hb := Hbe.out
      clear H
      cases h1 : isAt l k2 101
      · rw [h1] at hq1 hb
        rw [show isAt l k2 69 = be by simpa using hb] at hq2
        clear h1 hb
        go_wp2_with fail
        go_meet
        exact ⟨rfl, rfl⟩
      · rw [h1] at hq1 hb
        have Hb : Hid (true = be) := by show _ = _; simpa using hb
        clear h1 hb hq2
        go_wp2_with fail
        go_meet
        exact ⟨by rw [Hb.out], rfl⟩
  case rest =>
  obtain ⟨rfl, rfl⟩ := hcut
  go_upto_if 103 with fail
  go_cut [5, 9, 10] from 104 to 163 (fun s5 s9 s10 wx => ∃ (k3 : Nat) (p : Bool) (d : List UInt8) (s2 : Value), s5 = .int .i64 k3 ∧ k3 ≤ l.length ∧ Hid (cutP (l.drop k2) = (p, d, l.drop k3, true)) ∧ Hid (d.isEmpty = !be) ∧
      Hid (RBox wx w.heap.size false (.slice none 0 0) 0 false (.slice none 0 0) false []) ∧ Hid (RBox wx (w.heap.size + 1) mb (.slice none 0 0) g.length p s2 (!bd && !be) g) ∧
      wx.ownsRow (w.heap.size + 2) 3 1 s2 (tl d).length ((tl d).map DV) ∧ Below w.heap.size w wx)
  case first =>
    cases be
    · have Hc : Hid (cutP (l.drop k2) = (false, [], l.drop k2, true)) := by
        show _ = _
        have h := Hbe.out
        unfold cutP
        rw [if_neg]
        intro hE
        unfold isAt at h
        rcases hE with h1 | h1 <;> simp [h1] at h
      have Ra := rbox_a w mb g.length false (!bd) g
      have Rb := rbox_b w mb g.length false (!bd) g
      have Bl := below_W46 w mb g.length false (!bd) g
      have Hab : Hid (RBox (W46 w mb g.length false (!bd) g) w.heap.size false (.slice none 0 0) 0 false (.slice none 0 0) false [] ∧ RBox (W46 w mb g.length false (!bd) g) (w.heap.size + 1) mb (.slice none 0 0) g.length false (.slice none 0 0) (!bd && !false) g ∧ Below w.heap.size w (W46 w mb g.length false (!bd) g)) := ⟨Ra, by simpa using Rb, Bl⟩
      clear Ra Rb Bl
      go_wp2_with fail
      go_meet
      exact ⟨k2, false, [], .slice none 0 0, rfl, hk2l, Hc, rfl, Hab.out.1, Hab.out.2.1, World.ownsRow_nil _ _ _ _, Hab.out.2.2⟩
    · have hhE : isE (l.drop k2) := by
        have h := Hbe.out
        unfold isAt at h
        unfold isE
        simpa using h
      have hk2s : k2 + 1 ≤ l.length := by
        rcases Nat.lt_or_ge k2 l.length with h | h
        · omega
        · rw [List.drop_eq_nil_of_le h] at hhE; rcases hhE with h | h <;> simp at h
      have HE : Hid (isE (l.drop k2)) := hhE
      obtain ⟨bs, hbs⟩ : ∃ bs, (isAt l (k2 + 1) 43 || isAt l (k2 + 1) 45) = bs := ⟨_, rfl⟩
      have Hbs : Hid ((isAt l (k2 + 1) 43 || isAt l (k2 + 1) 45) = bs) := hbs
      clear hbs hhE
      go_upto_region 23 with fail
      go_cut [122] from 107 to 122 (fun s wx => s = .bool bs ∧ wx = W46 w mb g.length false false g)
      case first =>
        rcases atK l (k2 + 1) with ⟨h0, H⟩ | ⟨h0, c, hsz, gx, H⟩
        · have Hb : Hid (false = bs) := by show _ = _; rw [← Hbs.out, H.out, H.out]; rfl
          clear H
          go_wp2_with fail
          go_meet
          exact ⟨by rw [Hb.out], rfl⟩
        · have hq1 : ((c.toNat : Int) == 43) = isAt l (k2 + 1) 43 := H.out 43
          have hq2 : ((c.toNat : Int) == 45) = isAt l (k2 + 1) 45 := H.out 45
          have hb := Hbs.out
          clear H
          cases h1 : isAt l (k2 + 1) 43
          · rw [h1] at hq1 hb
            rw [show isAt l (k2 + 1) 45 = bs by simpa using hb] at hq2
            clear h1 hb
            go_wp2_with fail
            go_meet
            exact ⟨rfl, rfl⟩
          · rw [h1] at hq1 hb
            have Hb : Hid (true = bs) := by show _ = _; simpa using hb
            clear h1 hb hq2
            go_wp2_with fail
            go_meet
            exact ⟨by rw [Hb.out], rfl⟩
      case rest =>
      obtain ⟨rfl, rfl⟩ := hcut
      go_upto_if 122 with fail
      go_cut [5] from 123 to 129 (fun s5 wx => ∃ (k4 : Nat) (p : Bool), s5 = .int .i64 k4 ∧ k4 ≤ l.length ∧ Hid (skS (l.drop (k2 + 1)) = l.drop k4) ∧ Hid (decide ((l.drop (k2 + 1)).head? = some 45) = p) ∧ wx = W46 w mb g.length p false g)
      case first =>
        cases bs
        · have Hk : Hid (skS (l.drop (k2 + 1)) = l.drop (k2 + 1) ∧ decide ((l.drop (k2 + 1)).head? = some 45) = false) := by
            have h := Hbs.out
            unfold isAt at h
            simp only [Bool.or_eq_false_iff, decide_eq_false_iff_not] at h
            refine ⟨?_, decide_eq_false h.2⟩
            unfold skS
            rw [if_neg]
            intro hS
            rcases hS with h1 | h1
            · exact h.1 h1
            · exact h.2 h1
          go_wp2_with fail
          go_meet
          exact ⟨k2 + 1, false, by go_num, hk2s, Hk.out.1, Hk.out.2, rfl⟩
        · rcases atK l (k2 + 1) with ⟨h0, H⟩ | ⟨h0, c, hsz, gx, H⟩
          · exfalso
            have h := Hbs.out
            rw [H.out, H.out] at h
            cases h
          have hq2 : ((c.toNat : Int) == 45) = isAt l (k2 + 1) 45 := H.out 45
          have Hk : Hid (skS (l.drop (k2 + 1)) = l.drop (k2 + 2)) := by
            show _ = _
            have h := Hbs.out
            unfold isAt at h
            unfold skS
            rw [if_pos (by unfold isS; simpa using h), List.tail_drop]
          have hpp : isAt l (k2 + 1) 45 = decide ((l.drop (k2 + 1)).head? = some 45) := rfl
          have Hpp : Hid (decide ((l.drop (k2 + 1)).head? = some 45) = isAt l (k2 + 1) 45) := rfl
          generalize isAt l (k2 + 1) 45 = pp at hq2 Hpp
          clear H hpp
          go_wp2_with fail
          go_meet
          exact ⟨k2 + 2, pp, by go_num, by omega, Hk, Hpp, rfl⟩
      case rest =>
      obtain ⟨k4, p, rfl, hk4, Hsk, Hp, rfl⟩ := hcut
      obtain ⟨k3, hk3⟩ : ∃ k3, k3 = k4 + nd (l.drop k4) := ⟨_, rfl⟩
      obtain ⟨d, hd⟩ : ∃ d, d = digs (l.drop k4) := ⟨_, rfl⟩
      have hdl : k4 + d.length = k3 := by rw [hd, digs_length, hk3]
      have hk3l : k3 ≤ l.length := by have := nd_le (l.drop k4); rw [List.length_drop] at this; omega
      have Hm : Hid (∀ w, Calls Tryd.prog 46 #[.string ⟨l.toArray⟩, .int .i64 (k4 : Int)] w fun e w' => e = .returned (.int .i64 (k3 : Int)) ∧ w' = w) := fun w => by
        have h := many_any l k4 w (by omega) hk4
        rw [← hk3] at h
        exact h
      have Hc : Hid (cutP (l.drop k2) = (p, d, l.drop k3, !d.isEmpty)) := by
        show _ = _
        unfold cutP
        rw [if_pos HE.out, List.tail_drop, Hsk.out, Hp.out, ← hd]
        unfold rst
        rw [List.drop_drop, ← hk3]
      have Hat : Hid (∀ i (h : i < d.length) (x : Nat), x = k4 + i → ∃ h2 : x < (⟨l.toArray⟩ : ByteArray).size, (⟨l.toArray⟩ : ByteArray)[x] = d[i] ∧ isD d[i] = true) := fun i h x hx => by
        subst hx
        have hil : k4 + i < l.length := by omega
        have e : d[i]'h = l[k4 + i]'hil := by
          have e1 : d[i]? = l[k4 + i]? := by
            rw [hd]; unfold digs; rw [List.getElem?_take_of_lt (by omega), List.getElem?_drop]
          rw [List.getElem?_eq_getElem h, List.getElem?_eq_getElem hil] at e1
          exact Option.some.inj e1
        refine ⟨by show k4 + i < l.toArray.size; simp; omega, e.symm, ?_⟩
        have h1 := (nd_lt (l.drop k4) i (by omega) (by rw [List.length_drop]; omega)).1 (by omega)
        rw [List.getElem_drop] at h1
        rw [e]; exact h1
      by_cases hz : d = []
      · have hq : ((k3 : Int) == (k4 : Int)) = true := by subst hz; simp at hdl; simp; omega
        have Hnone : Hid (pcut l = none) := by show _ = _; rw [Hp3.out, Hc.out, hz]; rfl
        clear hk3 hd hdl hz Hat
        go_wp2_with fail
        refine (Hm.out _).mono ?_
        rintro e w' ⟨rfl, rfl⟩
        go_wp2
        (try simp only [Exit.inBlock, Exit.then])
        refine bodyPost_ret (v := .tuple #[.agg #[.bool mb, .slice none 0 0, .int .i64 g.length, .bool p, .slice none 0 0, .bool false, .string ⟨g.toArray⟩], .bool false]) ?_ rfl ⟨.inl ⟨Hnone.out, _, _, _, _, _, _, _, _, _, _, _, rfl⟩, ?_⟩
        · rw [results_cell_tmp rfl]; go_simp
        · (repeat' (first | with_reducible assumption | with_reducible exact Below.refl _ _ | with_reducible exact Nat.le_refl _ | with_reducible refine Below.setCell ?_ ?_ _ | with_reducible refine Below.alloc ?_ ?_ _ | with_reducible apply Below.drew | with_reducible apply below_drewN | omega | (simp; done) | (simp; omega)))
      · have hpos : 0 < d.length := List.length_pos_iff.2 hz
        have hq : ((k3 : Int) == (k4 : Int)) = false := by simp; omega
        have Hc2 : Hid (cutP (l.drop k2) = (p, d, l.drop k3, true)) := by show _ = _; rw [Hc.out]; simp [hz]
        have Hie : Hid (d.isEmpty = !true) := by show _ = _; simpa using hz
        have hdl1 : k4 + d.length ≤ k3 := by omega
        have hdl2 : k3 ≤ k4 + d.length := by omega
        obtain ⟨i0, hi, hz0, hz1, hz2⟩ := info_parts Try.infoI
        clear hk3 hd hdl hz hpos Hc
        go_wp2_with fail
        refine (Hm.out _).mono ?_
        rintro e w' ⟨rfl, rfl⟩
        go_wp2
        go_loopw [10] (fun s10 wr => ∃ (i n cap : Nat) (ao : Option Addr), s10 = .int .i64 ((k4 + i : Nat) : Int) ∧ i ≤ d.length ∧ Hid (n = (tl (d.take i)).length) ∧ n ≤ i ∧ Hid (RBox wr w.heap.size false (.slice none 0 0) 0 false (.slice none 0 0) false []) ∧
            Hid (RBox wr (w.heap.size + 1) mb (.slice none 0 0) g.length p (.slice ao n cap) false g) ∧ Hid (wr.ownsRow (w.heap.size + 2) 3 1 (.slice ao n cap) n ((tl (d.take i)).map DV)) ∧ Below w.heap.size w wr) (fun s _ => k3 - (intOf s).toNat)
        case atStart => exact ⟨0, 0, 0, none, rfl, Nat.zero_le _, rfl, Nat.le_refl _, rbox_a .., rbox_b .., World.ownsRow_nil _ _ _ _, below_W46 ..⟩
        case round =>
          obtain ⟨i, n, cap, ao, rfl, hid, Hn, hni, Hra, Hrb, Hown, hbel⟩ := hrel
          have hwb := Hrb.out.lt
          have r4 := Hrb.out.c4
          by_cases hlt : i < d.length
          · obtain ⟨x, hx⟩ : ∃ x, x = k4 + i := ⟨_, rfl⟩
            obtain ⟨h2, gx, hcD⟩ := Hat.out i hlt x hx
            obtain ⟨c, hc⟩ : ∃ c, d[i] = c := ⟨_, rfl⟩
            rw [hc] at gx hcD
            have hb1 := (isD_rng hcD).1
            have hb2 := (isD_rng hcD).2
            have Htk : Hid (tl (d.take (i + 1)) = if tl (d.take i) = [] ∧ c = 48 then [] else tl (d.take i) ++ [c]) := by
              show _ = _
              rw [List.take_succ_eq_append_getElem hlt, hc, tl_snoc]
            have hwu : IntKind.u8.wrap ((c.toNat : Int) - 48) = (c.toNat : Int) - 48 := by rw [IntKind.wrap_u8]; omega
            have hwi : IntKind.i64.wrap ((c.toNat : Int) - 48) = (c.toNat : Int) - 48 := by rw [IntKind.wrap_i64]; omega
            have hxl : x < k3 := by omega
            have hxll : x < l.length := by omega
            have Hx : Hid (x = k4 + i) := hx
            rw [← hx]
            clear hc hcD hx
            by_cases hskip : n = 0 ∧ c = 48
            · have Hap : Hid (tl (d.take (i + 1)) = tl (d.take i)) := by
                show _ = _
                have h0 : tl (d.take i) = [] := List.eq_nil_of_length_eq_zero (by rw [← Hn.out]; exact hskip.1)
                rw [Htk.out, if_pos ⟨h0, hskip.2⟩, h0]
              have hq1 : ((c.toNat : Int) != 48) = false := by rw [hskip.2]; rfl
              have hn0 : n ≤ 0 := by omega
              have Hn1 : Hid (n = (tl (d.take (i + 1))).length) := by show _ = _; rw [Hap.out, Hn.out]
              have Hown1 : Hid (wr.ownsRow (w.heap.size + 2) 3 1 (.slice ao n cap) n ((tl (d.take (i + 1))).map DV)) := by rw [Hap.out]; exact Hown
              clear hskip Htk
              go_wp2
              go_roundw
              case rel => exact ⟨i + 1, n, cap, ao, by rw [Hx.out]; go_num, by omega, Hn1, by omega, Hra, Hrb, Hown1, hbel⟩
              case measure => simp [intOf]; omega
            · have Hap : Hid (tl (d.take (i + 1)) = tl (d.take i) ++ [c]) := by
                show _ = _
                rw [Htk.out, if_neg]
                intro h
                refine hskip ⟨?_, h.2⟩
                rw [Hn.out, h.1]; rfl
              have hcs : (((c.toNat : Int) != 48) = true) ∨ (((c.toNat : Int) != 48) = false ∧ 0 < n) := by
                by_cases h : c = 48
                · right
                  refine ⟨by subst h; rfl, ?_⟩
                  rcases Nat.eq_zero_or_pos n with h0 | h0
                  · exact absurd ⟨h0, h⟩ hskip
                  · exact h0
                · left
                  have := u8_eq48 c
                  rw [show ((c.toNat : Int) != 48) = !((c.toNat : Int) == 48) from rfl, this, decide_eq_false h]; rfl
              clear hskip Htk
              rcases hcs with hq1 | ⟨hq1, hn0⟩
              all_goals go_wp2_with fail
              all_goals go_region_law (
                refine step_append_own rfl (.tmp 154) (.tmp 160) 39 rfl (w.heap.size + 2) 3 i0 (.int .i64 0) 1 8 Tryd.underlying39 hi hz0 hz1 hz2 rfl (by decide) (.slice ao n cap) n ((tl (d.take i)).map DV) (by simp [Act.eval]) (Hown.out.alloc _) ⟨wr.heap.size, 0, none⟩ 1 1 [.int .i64 ((c.toNat : Int) - 48)] (by simp [Act.eval]) rfl (by intro t u ht; match t, ht with | 0, ht => simp at ht; subst ht; simp [Addr.add]) (by intro u hu; simp at hu; subst hu; rfl) (by unfold maxLen; omega) (by omega) (by simp; omega) ?_
                intro v1 w1 hown1 hgrow1 _
                obtain ⟨ao1, cap1, rfl, hc1, hc2⟩ := owns_shape hown1
                have ra1 : Hid (RBox w1 w.heap.size false (.slice none 0 0) 0 false (.slice none 0 0) false []) := by
                  refine RBox.grown ?_ hgrow1 (row_ne Hown.out (by omega))
                  repeat' (first | with_reducible exact Hra.out | with_reducible apply RBox.drew | with_reducible apply RBox.alloc)
                have rb1 : Hid (RBox w1 (w.heap.size + 1) mb (.slice none 0 0) g.length p (.slice ao n cap) false g) := by
                  refine RBox.grown ?_ hgrow1 (row_ne Hown.out (by omega))
                  repeat' (first | with_reducible exact Hrb.out | with_reducible apply RBox.drew | with_reducible apply RBox.alloc)
                have bl1 : Hid (Below w.heap.size w w1) := by
                  refine Below.grown ?_ hgrow1 (by simp; omega) (fun k hk => by have := (Hown.out.lt k hk).1; omega)
                  repeat' (first | with_reducible exact hbel | with_reducible apply Below.drew | with_reducible refine Below.alloc ?_ ?_ _ | omega | (simp; omega))
                have Hown1 : Hid (w1.ownsRow (w.heap.size + 2) 3 1 (.slice ao1 (n + 1) cap1) (n + 1) ((tl (d.take i)).map DV ++ [.int .i64 ((c.toNat : Int) - 48)])) := hown1
                have c4 := rb1.out.c4
                have f4 := rb1.out.f4
                clear hown1 hgrow1)
              all_goals go_wp2
              all_goals go_roundw
              all_goals first
                | (refine ⟨i + 1, n + 1, cap1, ao1, by rw [Hx.out]; go_num, by omega, ?_, by omega, ?_, ?_, ?_, ?_⟩
                   · show _ = _
                     rw [Hap.out, List.length_append, Hn.out]; rfl
                   · show RBox _ _ _ _ _ _ _ _ _
                     repeat' (first | with_reducible exact ra1.out | with_reducible apply RBox.drew | (with_reducible refine RBox.setOther ?_ ?_ _) | (simp; done) | (simp; omega))
                   · show RBox _ _ _ _ _ _ _ _ _
                     repeat' (first | with_reducible exact rb1.out.set4 _ | with_reducible apply RBox.drew)
                   · show World.ownsRow _ _ _ _ _ _ _
                     rw [Hap.out, List.map_append]
                     exact ownsRow_setCell_below Hown1.out (by show w.heap.size + 1 < _; omega) _
                   · repeat' (first | with_reducible exact bl1.out | with_reducible apply Below.drew | with_reducible refine Below.setCell ?_ ?_ _ | (simp; done)))
                | (simp [intOf]; omega)
          · have hx : ¬ k4 + i < k3 := by omega
            have hid2 : i = d.length := by omega
            have Hown1 : Hid (wr.ownsRow (w.heap.size + 2) 3 1 (.slice ao n cap) (tl d).length ((tl d).map DV)) := by
              have h1 := Hown.out
              rw [Hn.out, hid2, List.take_length] at h1
              rw [Hn.out, hid2, List.take_length]
              exact h1
            have hxi : ¬ ((k4 + i : Nat) : Int) < (k3 : Int) := by omega
            clear hid2 hlt
            go_wp2
            go_meet
            exact ⟨k3, p, d, .slice ao n cap, rfl, hk3l, Hc2, Hie, Hra, by simpa using Hrb, Hown1.out, hbel⟩
  case rest =>
  obtain ⟨k3, p, d, s2, rfl, hk3, Hc, Hde, Hra, Hrb, hown2, hbel⟩ := hcut
  have Hp4 : Hid (pcut l = pcut4 mb g f p d (l.drop k3) true) := by
    show _ = _
    rw [Hp3.out, Hc.out]
  obtain ⟨ao2, cap2, rfl, hn2, hm2⟩ := owns_shape hown2
  have hab : w.heap.size + 1 < wc.heap.size := Hrb.out.lt
  by_cases hend : k3 = l.length
  case neg =>
    have hq : ((k3 : Int) != (l.length : Int)) = true := by simp; omega
    have Hnone : Hid (pcut l = none) := by
      show _ = _
      rw [Hp4.out]; unfold pcut4
      rw [if_neg (by simp), if_neg]
      intro h
      have := congrArg List.length h
      rw [List.length_drop] at this
      simp at this
      omega
    have b0 := Hrb.out.c0
    have a0 := Hra.out.c0
    have fa0 := Hra.out.f0
    have b1 := Hrb.out.c1
    have a1 := Hra.out.c1
    have fa1 := Hra.out.f1
    have b2 := Hrb.out.c2
    have a2 := Hra.out.c2
    have fa2 := Hra.out.f2
    have b3 := Hrb.out.c3
    have a3 := Hra.out.c3
    have fa3 := Hra.out.f3
    have b4 := Hrb.out.c4
    have a4 := Hra.out.c4
    have fa4 := Hra.out.f4
    have b5 := Hrb.out.c5
    have a5 := Hra.out.c5
    have fa5 := Hra.out.f5
    have b6 := Hrb.out.c6
    have a6 := Hra.out.c6
    have fa6 := Hra.out.f6
    clear hend
    go_wp2
    (try simp only [Exit.inBlock, Exit.then])
    refine bodyPost_ret (v := .tuple #[.agg #[.bool mb, .slice none 0 0, .int .i64 g.length, .bool p, .slice ao2 (tl d).length cap2, .bool (!bd && !be), .string ⟨g.toArray⟩], .bool false]) ?_ rfl ⟨.inl ⟨Hnone.out, _, _, _, _, _, _, _, _, _, _, _, rfl⟩, ?_⟩
    · rw [results_cell_tmp rfl]; go_simp
    · (repeat' (first | with_reducible assumption | with_reducible exact Below.refl _ _ | with_reducible exact Nat.le_refl _ | with_reducible refine Below.setCell ?_ ?_ _ | with_reducible refine Below.alloc ?_ ?_ _ | with_reducible apply Below.drew | with_reducible apply below_drewN | omega | (simp; done) | (simp; omega)))
  have hq : ((k3 : Int) != (l.length : Int)) = false := by simp; omega
  have Hsome : Hid (pcut l = some (mb, g, f, p, d)) := by
    show _ = _
    rw [Hp4.out]; unfold pcut4
    rw [if_neg (by simp), if_pos]
    rw [hend]; simp
  have Hpl : Hid ((f.isEmpty && d.isEmpty) = (!bd && !be)) := by show _ = _; rw [Hie.out, Hde.out]
  have Hall : Hid (∀ i (h : i < (g ++ f).length), isD (g ++ f)[i] = true) := fun i h => by
    have := pcut_digs2 Hsome.out
    exact this _ (List.getElem_mem h)
  obtain ⟨a, ha⟩ : ∃ a, a = g ++ f := ⟨_, rfl⟩
  have hal : a.length ≤ l.length := by rw [ha, List.length_append]; exact hgf
  have hga : g.length ≤ a.length := by rw [ha, List.length_append]; omega
  have Hah : Hid (a = g ++ f) := ha
  rw [← ha] at Hall ⊢
  obtain ⟨i0, hi, hz0, hz1, hz2⟩ := info_parts Try.infoI
  obtain ⟨B2, hB2⟩ : ∃ B2, B2 = wc.heap.size := ⟨_, rfl⟩
  have Hs2 : Hid (∀ k, (Value.slice ao2 (tl d).length cap2).ownBlock = some k → k < B2) := fun k hk => by rw [hB2]; exact (hown2.lt k hk).2
  have hB21 : w.heap.size + 2 ≤ B2 := by omega
  have hB22 : B2 ≤ wc.heap.size := by omega
  have Hown2 : Hid (wc.ownsRow (w.heap.size + 2) 3 1 (.slice ao2 (tl d).length cap2) (tl d).length ((tl d).map DV)) := hown2
  clear hend ha hB2 hown2 Hp3 Hp4 Hc Hde Hie
  obtain ⟨n2, hn2e⟩ : ∃ n2, n2 = (tl d).length := ⟨_, rfl⟩
  have Hn2 : Hid (n2 = (tl d).length) := hn2e
  rw [← hn2e] at Hown2 Hs2 Hrb hn2
  clear hn2e
  go_wp2
  go_loopw [11, 12] (fun s11 s12 wr => ∃ (i n cap : Nat) (ao : Option Addr), s11 = .int .i64 (i : Int) ∧ i ≤ a.length ∧ Hid (n = (tl (a.take i)).length) ∧ n ≤ i ∧ Hid (RBox wr w.heap.size false (.slice none 0 0) 0 false (.slice none 0 0) false []) ∧
      Hid (RBox wr (w.heap.size + 1) mb (.slice ao n cap) ((g.length : Int) - ((i : Int) - (n : Int))) p (.slice ao2 n2 cap2) (!bd && !be) g) ∧ Hid (wr.ownsRow B2 3 1 (.slice ao n cap) n ((tl (a.take i)).map DV)) ∧
      Hid (wr.ownsRow (w.heap.size + 2) 3 1 (.slice ao2 n2 cap2) n2 ((tl d).map DV)) ∧ B2 ≤ wr.heap.size ∧ Below w.heap.size w wr) (fun s _ _ => a.length - (intOf s).toNat)
  case atStart =>
    refine ⟨0, 0, 0, none, rfl, Nat.zero_le _, rfl, Nat.le_refl _, Hra, ?_, World.ownsRow_nil _ _ _ _, Hown2, hB22, hbel⟩
    simpa using Hrb
  case round =>
    obtain ⟨i, n, cap, ao, rfl, hil, Hn, hni, Hra, Hrb, Hown, Hown2, hB2w, hbel⟩ := hrel
    have r1 := Hrb.out.c1
    have r2 := Hrb.out.c2
    have f1 := Hrb.out.f1
    have f2 := Hrb.out.f2
    by_cases hlt : i < a.length
    · obtain ⟨c, hc⟩ : ∃ c, a[i] = c := ⟨_, rfl⟩
      have gx : (⟨a.toArray⟩ : ByteArray)[i]'(by show i < a.toArray.size; simpa using hlt) = c := hc
      have hcD : isD c = true := by rw [← hc]; exact Hall.out i hlt
      have hb1 := (isD_rng hcD).1
      have hb2 := (isD_rng hcD).2
      have Htk : Hid (tl (a.take (i + 1)) = if tl (a.take i) = [] ∧ c = 48 then [] else tl (a.take i) ++ [c]) := by
        show _ = _
        rw [List.take_succ_eq_append_getElem hlt, hc, tl_snoc]
      have hwu : IntKind.u8.wrap ((c.toNat : Int) - 48) = (c.toNat : Int) - 48 := by rw [IntKind.wrap_u8]; omega
      have hwi : IntKind.i64.wrap ((c.toNat : Int) - 48) = (c.toNat : Int) - 48 := by rw [IntKind.wrap_i64]; omega
      clear hc hcD
      by_cases hskip : n = 0 ∧ c = 48
      · have Hap : Hid (tl (a.take (i + 1)) = tl (a.take i)) := by
          show _ = _
          have h0 : tl (a.take i) = [] := List.eq_nil_of_length_eq_zero (by rw [← Hn.out]; exact hskip.1)
          rw [Htk.out, if_pos ⟨h0, hskip.2⟩, h0]
        have hq1 : (((c.toNat : Int) - 48) != 0) = false := by rw [hskip.2]; rfl
        have hn0 : n ≤ 0 := by omega
        have Hn1 : Hid (n = (tl (a.take (i + 1))).length) := by show _ = _; rw [Hap.out, Hn.out]
        have Hown1 : Hid (wr.ownsRow B2 3 1 (.slice ao n cap) n ((tl (a.take (i + 1))).map DV)) := by rw [Hap.out]; exact Hown
        have hw3 : IntKind.i64.wrap ((g.length : Int) - ((i : Int) - (n : Int)) - 1) = (g.length : Int) - ((i : Int) - (n : Int)) - 1 := by rw [IntKind.wrap_i64]; omega
        clear hskip Htk
        go_wp2
        go_roundw
        case rel =>
          refine ⟨i + 1, n, cap, ao, by go_num, by omega, Hn1, by omega, ?_, ?_, ?_, ?_, ?_, ?_⟩
          · show RBox _ _ _ _ _ _ _ _ _
            exact Hra.out.setOther (by show w.heap.size ≠ w.heap.size + 1; omega) _
          · show RBox _ _ _ _ _ _ _ _ _
            have h := Hrb.out.set2 ((g.length : Int) - ((i : Int) - (n : Int)) - 1)
            rw [show (g.length : Int) - (((i + 1 : Nat) : Int) - (n : Int)) = (g.length : Int) - ((i : Int) - (n : Int)) - 1 by omega]
            exact h
          · show World.ownsRow _ _ _ _ _ _ _
            exact ownsRow_setCell_below Hown1.out (by show w.heap.size + 1 < _; omega) _
          · show World.ownsRow _ _ _ _ _ _ _
            exact ownsRow_setCell_below Hown2.out (by show w.heap.size + 1 < _; omega) _
          · exact Nat.le_trans hB2w (size_set _ _ _)
          · exact Below.setCell hbel (by show w.heap.size ≤ w.heap.size + 1; omega) _
        case measure => simp [intOf]; omega
      · have Hap : Hid (tl (a.take (i + 1)) = tl (a.take i) ++ [c]) := by
          show _ = _
          rw [Htk.out, if_neg]
          intro h
          refine hskip ⟨?_, h.2⟩
          rw [Hn.out, h.1]; rfl
        have hcs : ((((c.toNat : Int) - 48) != 0) = true) ∨ ((((c.toNat : Int) - 48) != 0) = false ∧ 0 < n) := by
          by_cases h : c = 48
          · right
            refine ⟨by subst h; rfl, ?_⟩
            rcases Nat.eq_zero_or_pos n with h0 | h0
            · exact absurd ⟨h0, h⟩ hskip
            · exact h0
          · left
            have : c.toNat ≠ 48 := fun e => h (UInt8.toNat_inj.1 e)
            simp; omega
        clear hskip Htk
        rcases hcs with hq1 | ⟨hq1, hn0⟩
        all_goals go_wp2_with (
          at_builtin
          refine wpList_append_own_wide _ rfl (.tmp 189) (.tmp 191) 39 rfl B2 3 i0 (.int .i64 0) 1 8 Tryd.underlying39 hi hz0 hz1 hz2 rfl (by decide) _ n _ rfl (Hown.out.alloc _) ⟨wr.heap.size, 0, none⟩ 1 1 [.int .i64 ((c.toNat : Int) - 48)] rfl rfl (by intro t u ht; match t, ht with | 0, ht => simp at ht; subst ht; simp [Addr.add]) (by intro u hu; simp at hu; subst hu; rfl) (by unfold maxLen; omega) (by omega) (by simp; omega) ?_
          intro v1 w1 hown1 hgrow1 _
          obtain ⟨ao1, cap1, rfl, hc1, hc2⟩ := owns_shape hown1
          have ra1 : Hid (RBox w1 w.heap.size false (.slice none 0 0) 0 false (.slice none 0 0) false []) := RBox.grown (Hra.out.alloc _) hgrow1 (row_ne Hown.out (by omega))
          have rb1 : Hid (RBox w1 (w.heap.size + 1) mb (.slice ao n cap) ((g.length : Int) - ((i : Int) - (n : Int))) p (.slice ao2 n2 cap2) (!bd && !be) g) := RBox.grown (Hrb.out.alloc _) hgrow1 (row_ne Hown.out (by omega))
          have bl1 : Hid (Below w.heap.size w w1) := Below.grown (Below.alloc hbel (by omega) _) hgrow1 (by simp; omega) (fun k hk => by have := (Hown.out.lt k hk).1; omega)
          have own21 : Hid (w1.ownsRow (w.heap.size + 2) 3 1 (.slice ao2 n2 cap2) n2 ((tl d).map DV)) := (Hown2.out.alloc _).kept hgrow1 (by
            rcases h : (Value.slice ao2 n2 cap2).ownBlock with _ | k
            · exact .inl rfl
            · right
              intro e
              have h1 := Hs2.out k h
              have h2 := (Hown.out.lt k e.symm).1
              omega)
          have Hown1 : Hid (w1.ownsRow B2 3 1 (.slice ao1 (n + 1) cap1) (n + 1) ((tl (a.take i)).map DV ++ [.int .i64 ((c.toNat : Int) - 48)])) := hown1
          have hs1 : B2 ≤ w1.heap.size := by have := hgrow1.size; simp at this; omega
          have c1 := rb1.out.c1
          have f1 := rb1.out.f1
          clear hown1 hgrow1)
        all_goals go_roundw
        all_goals first
          | (refine ⟨i + 1, n + 1, cap1, ao1, by go_num, by omega, ?_, by omega, ?_, ?_, ?_, ?_, ?_, ?_⟩
             · show _ = _
               rw [Hap.out, List.length_append, Hn.out]; rfl
             · show RBox _ _ _ _ _ _ _ _ _
               exact ra1.out.setOther (by show w.heap.size ≠ w.heap.size + 1; omega) _
             · show RBox _ _ _ _ _ _ _ _ _
               rw [show (g.length : Int) - (((i + 1 : Nat) : Int) - ((n + 1 : Nat) : Int)) = (g.length : Int) - ((i : Int) - (n : Int)) by omega]
               exact rb1.out.set1 _
             · show World.ownsRow _ _ _ _ _ _ _
               rw [Hap.out, List.map_append]
               exact ownsRow_setCell_below Hown1.out (by show w.heap.size + 1 < _; omega) _
             · show World.ownsRow _ _ _ _ _ _ _
               exact ownsRow_setCell_below own21.out (by show w.heap.size + 1 < _; omega) _
             · exact Nat.le_trans hs1 (size_set _ _ _)
             · exact Below.setCell bl1.out (by show w.heap.size ≤ w.heap.size + 1; omega) _)
          | (simp [intOf]; omega)
    · have hid2 : i = a.length := by omega
      have Hah2 : Hid ((g.length : Int) - ((i : Int) - (n : Int)) = aheadN g f) := by
        show _ = _
        unfold aheadN
        rw [← Hah.out, Hn.out, hid2, List.take_length]
      have hown0 : wr.ownsRow B2 3 1 (.slice ao n cap) n ((tl a).map DV) := by
        have h1 := Hown.out
        rw [hid2, List.take_length] at h1
        exact h1
      have Hn0 : Hid (n = (tl a).length) := by show _ = _; rw [Hn.out, hid2, List.take_length]
      rw [Hah2.out] at Hrb r2
      have hii : ¬ (i : Int) < (a.length : Int) := by omega
      have hni2 : n ≤ a.length := by omega
      have Hall2 : Hid (∀ c ∈ tl a, isD c = true) := by
        intro c hc
        have hm : c ∈ a := List.dropWhile_sublist _ |>.mem hc
        obtain ⟨j, hj, e⟩ := List.getElem_of_mem hm
        rw [← e]
        exact Hall.out j hj
      clear hid2 Hown hlt
      go_wp2
      go_loopw [] (fun wr => ∃ (n cap : Nat) (ao : Option Addr) (ds : List UInt8), Hid (n = ds.length) ∧ n ≤ a.length ∧ Hid (tr ds = tr (tl a)) ∧ Hid (∀ c ∈ ds, isD c = true) ∧ Hid (RBox wr w.heap.size false (.slice none 0 0) 0 false (.slice none 0 0) false []) ∧
          Hid (RBox wr (w.heap.size + 1) mb (.slice ao n cap) (aheadN g f) p (.slice ao2 n2 cap2) (!bd && !be) g) ∧ Hid (wr.ownsRow B2 3 1 (.slice ao n cap) n (ds.map DV)) ∧
          Hid (wr.ownsRow (w.heap.size + 2) 3 1 (.slice ao2 n2 cap2) n2 ((tl d).map DV)) ∧ B2 ≤ wr.heap.size ∧ Below w.heap.size w wr) (fun wr => lenAt (wr.cell? ⟨w.heap.size + 1, 1, none⟩))
      case atStart => exact ⟨n, cap, ao, tl a, Hn0, hni2, rfl, Hall2, Hra, Hrb, hown0, Hown2, hB2w, hbel⟩
      case round =>
      obtain ⟨n, cap, ao, ds, Hn, hna, Htr, HallD, Hra, Hrb, Hown, Hown2, hB2w, hbel⟩ := hrel
      have r1 := Hrb.out.c1
      have f1 := Hrb.out.f1
      by_cases hn0 : n = 0
      · have hn00 : n ≤ 0 := by omega
        have hfin : tr (tl a) = ds := by
          have h0 : ds = [] := List.eq_nil_of_length_eq_zero (by rw [← Hn.out]; exact hn0)
          rw [← Htr.out, h0]; rfl
        have Hfin : Hid (tr (tl a) = ds) := hfin
        have b0 := Hrb.out.c0
        have a0 := Hra.out.c0
        have fa0 := Hra.out.f0
        have b2 := Hrb.out.c2
        have a2 := Hra.out.c2
        have fa2 := Hra.out.f2
        have b3 := Hrb.out.c3
        have a3 := Hra.out.c3
        have fa3 := Hra.out.f3
        have b4 := Hrb.out.c4
        have a4 := Hra.out.c4
        have fa4 := Hra.out.f4
        have b5 := Hrb.out.c5
        have a5 := Hra.out.c5
        have fa5 := Hra.out.f5
        have b6 := Hrb.out.c6
        have a6 := Hra.out.c6
        have fa6 := Hra.out.f6
        have a1 := Hra.out.c1
        have fa1 := Hra.out.f1
        clear hfin hn0 r1
        have b1 := Hrb.out.c1
        go_wp2
        (try simp only [Exit.inBlock, Exit.then])
        refine bodyPost_ret (v := .tuple #[.agg #[.bool mb, .slice ao n cap, .int .i64 (aheadN g f), .bool p, .slice ao2 n2 cap2, .bool (!bd && !be), .string ⟨g.toArray⟩], .bool true]) ?_ rfl ⟨.inr ⟨mb, g, f, p, d, .slice ao n cap, .slice ao2 n2 cap2, Hsome.out, by rw [Hpl.out], ?_, ?_⟩, ?_⟩
        · rw [results_cell_tmp rfl]; go_simp
        · rw [← Hah.out, Hfin.out, ← Hn.out]
          repeat' (first | with_reducible exact owns_base Hown.out (by omega) | (with_reducible refine ownsRow_setCell_below ?_ ?_ _) | (simp; done) | (simp; omega))
        · rw [← Hn2.out]
          repeat' (first | with_reducible exact Hown2.out | (with_reducible refine ownsRow_setCell_below ?_ ?_ _) | (simp; done) | (simp; omega))
        · (repeat' (first | with_reducible assumption | with_reducible exact Below.refl _ _ | with_reducible exact Nat.le_refl _ | with_reducible refine Below.setCell ?_ ?_ _ | with_reducible refine Below.alloc ?_ ?_ _ | with_reducible apply Below.drew | with_reducible apply below_drewN | omega | (simp; done) | (simp; omega)))
      · have hpos : 0 < n := by omega
        have hne : ds ≠ [] := by intro e; have := Hn.out; rw [e] at this; simp at this; omega
        obtain ⟨y, c, hy⟩ : ∃ y c, ds = y ++ [c] := ⟨ds.dropLast, ds.getLast hne, (List.dropLast_concat_getLast hne).symm⟩
        obtain ⟨gb, rfl, hgb1, hgb2, hcells⟩ := owns_some Hown.out hpos
        obtain ⟨_, cap', e', hcapn, _⟩ := owns_shape Hown.out
        obtain rfl : cap' = cap := by cases e'; rfl
        have hyn : n = y.length + 1 := by rw [Hn.out, hy]; simp
        obtain ⟨j, hj⟩ : ∃ j, j = y.length := ⟨_, rfl⟩
        have hji : (n : Int) - 1 = (j : Int) := by omega
        have hcell : wr.cell? ⟨gb, j, none⟩ = some (.int .i64 ((c.toNat : Int) - 48)) := by
          refine hcells j _ ?_
          rw [hy, List.map_append, hj]
          simp [DV]
        have hcD : isD c = true := HallD.out c (by rw [hy]; simp)
        have hb1 := (isD_rng hcD).1
        have hjn : j < n := by omega
        have Hnj : Hid (n = j + 1) := by show _ = _; omega
        have Hy : Hid (ds = y ++ [c]) := hy
        have Hjy : Hid (j = y.length) := hj
        have Htry : Hid (tr ds = if (c == 48) = true then tr y else ds) := by show _ = _; rw [hy]; exact tr_snoc y c
        clear hcells hcD hne hy hyn hj hn0
        by_cases hc : c = 48
        · have hq1 : (((c.toNat : Int) - 48) == 0) = true := by subst hc; rfl
          have Htr1 : Hid (tr y = tr (tl a)) := by show _ = _; rw [← Htr.out, Htry.out, if_pos (by simp [hc])]
          clear hc
          go_wp2
          go_roundw
          case rel =>
            refine ⟨j, cap', some ⟨gb, 0, none⟩, y, Hjy, by omega, Htr1, ?_, ?_, ?_, ?_, ?_, ?_, ?_⟩
            · intro c' hc'
              exact HallD.out c' (by rw [Hy.out]; simp [hc'])
            · show RBox _ _ _ _ _ _ _ _ _
              exact Hra.out.setOther (by show w.heap.size ≠ w.heap.size + 1; omega) _
            · show RBox _ _ _ _ _ _ _ _ _
              exact Hrb.out.set1 _
            · show World.ownsRow _ _ _ _ _ _ _
              refine ownsRow_setCell_below ?_ (by show w.heap.size + 1 < _; omega) _
              have h := Hown.out
              rw [Hnj.out, Hy.out, List.map_append] at h
              exact owns_less h
            · show World.ownsRow _ _ _ _ _ _ _
              exact ownsRow_setCell_below Hown2.out (by show w.heap.size + 1 < _; omega) _
            · exact Nat.le_trans hB2w (size_set _ _ _)
            · exact Below.setCell hbel (by show w.heap.size ≤ w.heap.size + 1; omega) _
          case measure =>
            rw [(Hrb.out.set1 _).c1, r1]
            exact hjn
        · have hq1 : (((c.toNat : Int) - 48) == 0) = false := by
            have : c.toNat ≠ 48 := fun e => hc (UInt8.toNat_inj.1 e)
            simp; omega
          have hfin : tr (tl a) = ds := by
            rw [← Htr.out, Htry.out, if_neg (by simpa using hc)]
          have Hfin : Hid (tr (tl a) = ds) := hfin
          have b0 := Hrb.out.c0
          have a0 := Hra.out.c0
          have fa0 := Hra.out.f0
          have b2 := Hrb.out.c2
          have a2 := Hra.out.c2
          have fa2 := Hra.out.f2
          have b3 := Hrb.out.c3
          have a3 := Hra.out.c3
          have fa3 := Hra.out.f3
          have b4 := Hrb.out.c4
          have a4 := Hra.out.c4
          have fa4 := Hra.out.f4
          have b5 := Hrb.out.c5
          have a5 := Hra.out.c5
          have fa5 := Hra.out.f5
          have b6 := Hrb.out.c6
          have a6 := Hra.out.c6
          have fa6 := Hra.out.f6
          have a1 := Hra.out.c1
          have fa1 := Hra.out.f1
          clear hfin hc
          have b1 := Hrb.out.c1
          go_wp2
          (try simp only [Exit.inBlock, Exit.then])
          refine bodyPost_ret (v := .tuple #[.agg #[.bool mb, .slice (some ⟨gb, 0, none⟩) n cap', .int .i64 (aheadN g f), .bool p, .slice ao2 n2 cap2, .bool (!bd && !be), .string ⟨g.toArray⟩], .bool true]) ?_ rfl ⟨.inr ⟨mb, g, f, p, d, .slice (some ⟨gb, 0, none⟩) n cap', .slice ao2 n2 cap2, Hsome.out, by rw [Hpl.out], ?_, ?_⟩, ?_⟩
          · rw [results_cell_tmp rfl]; go_simp
          · rw [← Hah.out, Hfin.out, ← Hn.out]
            repeat' (first | with_reducible exact owns_base Hown.out (by omega) | (with_reducible refine ownsRow_setCell_below ?_ ?_ _) | (simp; done) | (simp; omega))
          · rw [← Hn2.out]
            repeat' (first | with_reducible exact Hown2.out | (with_reducible refine ownsRow_setCell_below ?_ ?_ _) | (simp; done) | (simp; omega))
          · (repeat' (first | with_reducible assumption | with_reducible exact Below.refl _ _ | with_reducible exact Nat.le_refl _ | with_reducible refine Below.setCell ?_ ?_ _ | with_reducible refine Below.alloc ?_ ?_ _ | with_reducible apply Below.drew | with_reducible apply below_drewN | omega | (simp; done) | (simp; omega)))

end Go.Proofs.YtkfchdmlemcjhaaDoor.Dec