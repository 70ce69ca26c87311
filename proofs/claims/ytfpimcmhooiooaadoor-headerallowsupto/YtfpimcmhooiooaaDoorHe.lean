import Derived.Test.YtfpimcmhooiooaaDoorHa
import Derived.Test.YtfpimcmhooiooaaDoorBase
namespace Go.Proofs.YtfpimcmhooiooaaDoor
open Go.RowKit

/-- Texts that can be read. -/
structure TR (w : World) (v : Value) (l : List (List UInt8)) (ao : Option Addr) (cap : Nat) : Prop where
  val : v = .slice ao l.length cap
  cap : l.length ≤ cap
  cell : l = [] ∨ ∃ g off : Nat, ao = some ⟨g, off, none⟩ ∧ g < w.heap.size ∧ ∀ j, j < l.length → w.cell? ⟨g, off + j, none⟩ = some (.string ⟨(l.getD j []).toArray⟩)
theorem TR.at {w : World} {v : Value} {l : List (List UInt8)} {ao : Option Addr} {cap : Nat} (h : TR w v l ao cap) {j : Nat} (hj : j < l.length) : ∃ g off : Nat, ao = some ⟨g, off, none⟩ ∧ w.cell? ⟨g, off + j, none⟩ = some (.string ⟨(l.getD j []).toArray⟩) := by
  rcases h.cell with h0 | ⟨g, off, e, _, hc⟩
  · subst h0; simp at hj
  · exact ⟨g, off, e, hc j hj⟩
theorem TR.below {w w' : World} {v : Value} {l : List (List UInt8)} {ao : Option Addr} {cap n : Nat} (h : TR w v l ao cap) (hb : Below n w w') (hn : w.heap.size ≤ n) : TR w' v l ao cap := by
  refine ⟨h.val, h.cap, ?_⟩
  rcases h.cell with h0 | ⟨g, off, e, hg, hc⟩
  · exact .inl h0
  · exact .inr ⟨g, off, e, Nat.lt_of_lt_of_le hg hb.size, fun j hj => cell_but (hc j hj) fun _ => hb.block g (by omega)⟩

set_option maxRecDepth 100000 in
set_option maxHeartbeats 4000000 in
theorem index_any (ao : Option Addr) (cap : Nat) (l : List (List UInt8)) (s : List UInt8) (w : World) (h : TR w (.slice ao l.length cap) l ao cap) (hl : l.length ≤ 9223372036854775807) :
    Calls Tryd.prog 19 #[.slice ao l.length cap, .string ⟨s.toArray⟩] w fun e w' => (∃ r : Int, e = .returned (.int .i64 r) ∧ decide (r ≥ 0) = decide (s ∈ l)) ∧ w' = w := by
  have HC : Hid (∀ j, j < l.length → ∃ g off : Nat, ao = some ⟨g, off, none⟩ ∧ w.cell? ⟨g, off + j, none⟩ = some (.string ⟨(l.getD j []).toArray⟩)) := fun j hj => h.at hj
  clear h
  go_enter Tryd.func19, Tryd.ntmps19
  go_wp2
  go_loopw [8] (fun s8 wx => ∃ k : Nat, s8 = .int .i64 k ∧ k ≤ l.length ∧ wx = w ∧ ∀ j, j < k → l.getD j [] ≠ s) (fun x _ => l.length - (intOf x).toNat)
  case atStart => exact ⟨0, rfl, Nat.zero_le _, rfl, fun j hj => by omega⟩
  case round =>
    obtain ⟨k, rfl, hk, rfl, hne⟩ := hrel
    have HNe : Hid (∀ j, j < k → l.getD j [] ≠ s) := hne
    clear hne
    by_cases hlt : k < l.length
    · have q0 : decide ((k : Int) < (l.length : Int)) = true := decide_eq_true (by omega)
      obtain ⟨g, off, rfl, kc⟩ := HC.out k hlt
      obtain ⟨x, hx⟩ : ∃ x, l.getD k [] = x := ⟨_, rfl⟩
      rw [hx] at kc
      by_cases he : s = x
      · subst he
        have HF : Hid (s ∈ l) := by
          show _ ∈ _
          rw [← hx, List.getD_eq_getElem?_getD, List.getElem?_eq_getElem hlt]
          exact List.getElem_mem hlt
        clear hx HNe
        go_wp2
        go_ret
        exact ⟨⟨_, rfl, by rw [decide_eq_true HF.out, decide_eq_true (by omega)]⟩, rfl⟩
      · have qs : (s == x) = false := by simpa using he
        have HN2 : Hid (∀ j, j < k + 1 → l.getD j [] ≠ s) := fun j hj => by
          rcases Nat.lt_or_ge j k with h | h
          · exact HNe.out j h
          · obtain rfl : j = k := by omega
            rw [hx]; exact fun e => he e.symm
        clear hx HNe he
        go_wp2
        go_roundw
        case rel => exact ⟨k + 1, by go_num, by omega, trivial, HN2.out⟩
        case measure => simp [intOf]; omega
    · have q0 : decide ((k : Int) < (l.length : Int)) = false := decide_eq_false (by omega)
      have HF : Hid (s ∉ l) := by
        show _ ∉ _
        intro hcc
        obtain ⟨j, hj, e⟩ := List.getElem_of_mem hcc
        exact absurd (by rw [List.getD_eq_getElem?_getD, List.getElem?_eq_getElem hj]; exact e) (HNe.out j (by omega))
      go_wp2
      go_ret
      exact ⟨⟨_, rfl, by rw [decide_eq_false HF.out, decide_eq_false (by omega)]⟩, rfl⟩

set_option maxRecDepth 100000 in
theorem contains_any (ao : Option Addr) (cap : Nat) (l : List (List UInt8)) (s : List UInt8) (w : World) (h : TR w (.slice ao l.length cap) l ao cap) (hl : l.length ≤ 9223372036854775807) :
    Calls Tryd.prog 12 #[.slice ao l.length cap, .string ⟨s.toArray⟩] w fun e w' => e = .returned (.bool (decide (s ∈ l))) ∧ w' = w := by
  have C0 := index_any ao cap l s w h hl
  clear h
  generalize decide (s ∈ l) = b at *
  go_enter Tryd.func12, Tryd.ntmps12
  go_wp2_with fail
  refine C0.mono ?_
  clear C0
  rintro e w1 ⟨⟨r, rfl, hr⟩, rfl⟩
  go_wp2
  go_ret
  exact ⟨rfl, rfl⟩

theorem Alg.lt {w : World} (h : Alg w) : 0 < w.heap.size := World.block_lt_of_cell? w _ (alg_cell h (k := 0) (by decide)).1
theorem Alg.bel {w w' : World} {B : Nat} (h : Alg w) (hb : Below B w w') (hB : w.heap.size ≤ B) : Alg w' := h.below hb (Nat.lt_of_lt_of_le h.lt hB)

/-- A header as a value; a policy. -/
def hdV (h : Hd) : Value := .agg #[.int .i64 h.alg, .string ⟨h.kid.toArray⟩, .string ⟨h.typ.toArray⟩, .bool h.has]
def plV (a : Value) (iss : ByteArray) (hi : Bool) (aud : ByteArray) (ha : Bool) (ty : List UInt8) (wt : Bool) (lee : Int) (need : Value) : Value := .agg #[a, .string iss, .bool hi, .string aud, .bool ha, .string ⟨ty.toArray⟩, .bool wt, .int .i64 lee, need]

set_option maxRecDepth 100000 in
set_option maxHeartbeats 4000000 in
theorem allow_any (ao : Option Addr) (cap : Nat) (l : List (List UInt8)) (iss : ByteArray) (hi : Bool) (aud : ByteArray) (ha : Bool) (ty : List UInt8) (wt : Bool) (lee : Int) (need : Value) (h : Hd) (w : World)
    (hR : TR w (.slice ao l.length cap) l ao cap) (hl : l.length ≤ 9223372036854775807) (hA : Alg w) :
    Calls Tryd.prog 6 #[plV (.slice ao l.length cap) iss hi aud ha ty wt lee need, hdV h] w fun e w' => e = .returned (.int .i64 (allowF l wt ty h : Nat)) ∧ Below w.heap.size w w' := by
  unfold plV hdV
  obtain ⟨alg, kid, typ, has⟩ := h
  dsimp only
  obtain ⟨W, hW⟩ : ∃ W : World, W = (w.alloc (.cells #[.slice ao l.length cap, .string iss, .bool hi, .string aud, .bool ha, .string ⟨ty.toArray⟩, .bool wt, .int .i64 lee, need] 24)).alloc (.cells #[.int .i64 alg, .string ⟨kid.toArray⟩, .string ⟨typ.toArray⟩, .bool has] 27) := ⟨_, rfl⟩
  have hB : Below w.heap.size w W := by rw [hW]; exact ((alloc_below _ _).mono (Nat.le_refl _)).trans ((alloc_below _ _).mono (by simp))
  have b1 : Bl 24 W w.heap.size [.slice ao l.length cap, .string iss, .bool hi, .string aud, .bool ha, .string ⟨ty.toArray⟩, .bool wt, .int .i64 lee, need] := by
    rw [hW]
    exact (alloc_bl w _ _).below (alloc_below _ _) (by simp)
  have b2 : Bl 27 W (w.heap.size + 1) [.int .i64 alg, .string ⟨kid.toArray⟩, .string ⟨typ.toArray⟩, .bool has] := by
    have := alloc_bl (w.alloc (.cells #[.slice ao l.length cap, .string iss, .bool hi, .string aud, .bool ha, .string ⟨ty.toArray⟩, .bool wt, .int .i64 lee, need] 24)) [.int .i64 alg, .string ⟨kid.toArray⟩, .string ⟨typ.toArray⟩, .bool has] 27
    rw [hW]
    simpa using this
  have c0 : W.cell? ⟨w.heap.size, 0, none⟩ = some (.slice ao l.length cap) := b1.cell 0 (by simp)
  have c5 : W.cell? ⟨w.heap.size, 5, none⟩ = some (.string ⟨ty.toArray⟩) := b1.cell 5 (by simp)
  have c6 : W.cell? ⟨w.heap.size, 6, none⟩ = some (.bool wt) := b1.cell 6 (by simp)
  have d0 : W.cell? ⟨w.heap.size + 1, 0, none⟩ = some (.int .i64 alg) := b2.cell 0 (by simp)
  have d2 : W.cell? ⟨w.heap.size + 1, 2, none⟩ = some (.string ⟨typ.toArray⟩) := b2.cell 2 (by simp)
  have d3 : W.cell? ⟨w.heap.size + 1, 3, none⟩ = some (.bool has) := b2.cell 3 (by simp)
  have CN := kname_any alg W (hA.bel hB (Nat.le_refl _))
  have CC := contains_any ao cap l (nameF' alg) W (hR.below hB (Nat.le_refl _)) hl
  have HB : Hid (Below w.heap.size w W) := hB
  clear hB b1 b2 hA hR
  by_cases hn : nameF' alg = []
  · have HF : Hid (allowF l wt ty ⟨alg, kid, typ, has⟩ = 112) := by show _ = _; unfold allowF; exact if_pos (Or.inl hn)
    rw [hn] at CN
    clear CC hn
    go_enter Tryd.func6, Tryd.ntmps6
    go_wp2_with fail
    rw [← hW]
    clear hW
    refine CN.mono ?_
    clear CN
    rintro e w1 ⟨rfl, rfl⟩
    go_wp2
    go_ret
    rw [HF.out]
    exact ⟨rfl, HB.out⟩
  · have qn : (nameF' alg == ([] : List UInt8)) = false := by simpa using hn
    by_cases hm : nameF' alg ∈ l
    · have HX : Hid (allowF l wt ty ⟨alg, kid, typ, has⟩ = if wt = true ∧ (has = false ∨ typ ≠ ty) then 113 else 0) := by
        show _ = _
        unfold allowF
        rw [if_neg (fun h => h.elim hn fun h => h hm)]
      rw [decide_eq_true hm] at CC
      generalize nameF' alg = nm at *
      clear hn hm
      go_enter Tryd.func6, Tryd.ntmps6
      go_wp2_with fail
      rw [← hW]
      clear hW
      refine CN.mono ?_
      clear CN
      rintro e w1 ⟨rfl, rfl⟩
      go_wp2_with fail
      refine CC.mono ?_
      clear CC
      rintro e w2 ⟨rfl, rfl⟩
      cases wt
      · go_wp2
        go_ret
        rw [HX.out]
        exact ⟨rfl, HB.out⟩
      · cases has
        · go_wp2
          go_ret
          rw [HX.out]
          exact ⟨rfl, HB.out⟩
        · by_cases ht : typ = ty
          · subst ht
            have qt : (typ == typ) = true := by simp
            have HE : Hid (allowF l true typ ⟨alg, kid, typ, true⟩ = 0) := by show _ = _; rw [HX.out, if_neg]; simp
            clear HX
            go_wp2
            go_ret
            rw [HE.out]
            exact ⟨rfl, HB.out⟩
          · have qt : (typ == ty) = false := by simpa using ht
            have qt2 : (typ != ty) = true := by simpa using ht
            have HE : Hid (allowF l true ty ⟨alg, kid, typ, true⟩ = 113) := by show _ = _; rw [HX.out, if_pos]; exact ⟨rfl, Or.inr ht⟩
            clear HX ht
            go_wp2
            go_ret
            rw [HE.out]
            exact ⟨rfl, HB.out⟩
    · have HF : Hid (allowF l wt ty ⟨alg, kid, typ, has⟩ = 112) := by show _ = _; unfold allowF; exact if_pos (Or.inr hm)
      rw [decide_eq_false hm] at CC
      generalize nameF' alg = nm at *
      clear hn hm
      go_enter Tryd.func6, Tryd.ntmps6
      go_wp2_with fail
      rw [← hW]
      clear hW
      refine CN.mono ?_
      clear CN
      rintro e w1 ⟨rfl, rfl⟩
      go_wp2_with fail
      refine CC.mono ?_
      clear CC
      rintro e w2 ⟨rfl, rfl⟩
      go_wp2
      go_ret
      rw [HF.out]
      exact ⟨rfl, HB.out⟩

end Go.Proofs.YtfpimcmhooiooaaDoor
