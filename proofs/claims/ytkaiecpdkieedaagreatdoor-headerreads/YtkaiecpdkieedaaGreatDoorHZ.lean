import Derived.Test.YtkaiecpdkieedaaGreatDoorBase
import Derived.Test.YtkaiecpdkieedaaGreatDoorJZ
namespace Go.Proofs.YtkaiecpdkieedaaGreatDoor
open Go.RowKit

/-- The algorithms: name, type, curve. -/
def algT : List (List UInt8 × Int × List UInt8) := [([], 0, []), ([72, 83, 50, 53, 54], 1, []), ([72, 83, 51, 56, 52], 1, []), ([72, 83, 53, 49, 50], 1, []), ([82, 83, 50, 53, 54], 2, []), ([82, 83, 51, 56, 52], 2, []), ([82, 83, 53, 49, 50], 2, []), ([80, 83, 50, 53, 54], 2, []), ([80, 83, 51, 56, 52], 2, []), ([80, 83, 53, 49, 50], 2, []), ([69, 83, 50, 53, 54], 3, [80, 45, 50, 53, 54]), ([69, 83, 51, 56, 52], 3, [80, 45, 51, 56, 52]), ([69, 100, 68, 83, 65], 4, [69, 100, 50, 53, 53, 49, 57])]
def algN (k : Nat) : List UInt8 := (algT.getD k ([], 0, [])).1
def algK (k : Nat) : Int := (algT.getD k ([], 0, [])).2.1
def algC (k : Nat) : List UInt8 := (algT.getD k ([], 0, [])).2.2
/-- Their cells. -/
def algCs : List Value := algT.flatMap fun r => [.string ⟨r.1.toArray⟩, .int .i64 r.2.1, .string ⟨r.2.2.toArray⟩]
/-- The program's table stands. -/
def Alg (w : World) : Prop := w.rangeAt 0 0 algCs
theorem Alg.below {B : Nat} {w w' : World} (h : Alg w) (hb : Below B w w') (hB : 0 < B) : Alg w' := fun j v hv => cell_but (h j v hv) fun _ => hb.block _ hB

set_option maxRecDepth 100000 in
theorem ix_run (k : Nat) (hk : k < 13) (w : World) : (Instr.index 83 (.agg algCs.toArray) (.int .i64 (k : Int))).run Tryz.prog w = .ok (.agg #[.string ⟨(algN k).toArray⟩, .int .i64 (algK k), .string ⟨(algC k).toArray⟩]) w := by
  rcases (show k = 0 ∨ k = 1 ∨ k = 2 ∨ k = 3 ∨ k = 4 ∨ k = 5 ∨ k = 6 ∨ k = 7 ∨ k = 8 ∨ k = 9 ∨ k = 10 ∨ k = 11 ∨ k = 12 by omega) with rfl | rfl | rfl | rfl | rfl | rfl | rfl | rfl | rfl | rfl | rfl | rfl | rfl <;> kernel_rfl

theorem alg_cell {w : World} (h : Alg w) {k : Nat} (hk : k < 13) : w.cell? ⟨0, k * 3, none⟩ = some (.string ⟨(algN k).toArray⟩) ∧ w.cell? ⟨0, k * 3 + 1, none⟩ = some (.int .i64 (algK k)) ∧ w.cell? ⟨0, k * 3 + 2, none⟩ = some (.string ⟨(algC k).toArray⟩) := by
  have e : ∀ j, j < 39 → ∃ v, algCs[j]? = some v := fun j hj => ⟨_, List.getElem?_eq_getElem (by show j < 39; exact hj)⟩
  have h0 : ∀ j v, algCs[j]? = some v → w.cell? ⟨0, j, none⟩ = some v := fun j v hv => by
    have := h j v hv
    rwa [Nat.zero_add] at this
  rcases (show k = 0 ∨ k = 1 ∨ k = 2 ∨ k = 3 ∨ k = 4 ∨ k = 5 ∨ k = 6 ∨ k = 7 ∨ k = 8 ∨ k = 9 ∨ k = 10 ∨ k = 11 ∨ k = 12 by omega) with rfl | rfl | rfl | rfl | rfl | rfl | rfl | rfl | rfl | rfl | rfl | rfl | rfl <;> exact ⟨h0 _ _ rfl, h0 _ _ rfl, h0 _ _ rfl⟩

/-- The number of a name. -/
def ofF (l : List UInt8) : Nat := ((List.range 13).find? fun k => decide (algN k = l)).getD 0
/-- The name of a number. -/
def nameF' (a : Int) : List UInt8 := if 0 ≤ a ∧ a < 13 then algN a.toNat else []
theorem of_hit {l : List UInt8} {k : Nat} (hk : k < 13) (h : ∀ j, j < k → algN j ≠ l) (e : algN k = l) : ofF l = k := by
  unfold ofF
  have : (List.range 13).find? (fun k => decide (algN k = l)) = some k := by
    rw [List.find?_eq_some_iff_getElem]
    refine ⟨decide_eq_true e, k, by simpa using hk, by simp, fun j hj => ?_⟩
    simpa using h j hj
  rw [this]
  rfl
theorem of_miss {l : List UInt8} (h : ∀ j, j < 13 → algN j ≠ l) : ofF l = 0 := by
  unfold ofF
  have : (List.range 13).find? (fun k => decide (algN k = l)) = none := by
    rw [List.find?_eq_none]
    intro j hj
    simpa using h j (by simpa using hj)
  rw [this]
  rfl
theorem alg_ne : ∀ k, k < 13 → 1 ≤ k → algN k ≠ [] := by decide

set_option maxRecDepth 100000 in
set_option maxHeartbeats 4000000 in
theorem of_any (l : List UInt8) (w : World) (hA : Alg w) : Calls Tryz.prog 39 #[.string ⟨l.toArray⟩] w fun e w' => e = .returned (.int .i64 (ofF l)) ∧ Below w.heap.size w w' := by
  have HA : Hid (Alg w) := hA
  have hix := ix_run
  obtain ⟨cs, hcs⟩ : ∃ cs, algCs = cs := ⟨_, rfl⟩
  have hcl : (Tryz.prog.info? 83).map (·.size) = some cs.length := by rw [← hcs]; kernel_rfl
  have hra : w.rangeAt 0 0 cs := by rw [← hcs]; exact hA
  rw [hcs] at hix
  have HR : Hid (w.rangeAt 0 0 cs) := hra
  clear hA hcs hra
  go_enter Tryz.func39, Tryz.ntmps39
  go_wp2_with (refine wpList_load_mid rfl 83 (.global 0) rfl 0 0 rfl cs _ HR.out Tryz.underlying83 rfl hcl ?_)
  go_loopw [6] (fun s6 wx => ∃ k : Nat, s6 = .int .i64 k ∧ k ≤ 13 ∧ Below w.heap.size w wx ∧ ∀ j, j < k → algN j ≠ l) (fun s _ => 13 - (intOf s).toNat)
  case atStart => exact ⟨0, rfl, by omega, Below.refl _ _, fun j hj => by omega⟩
  case round =>
    obtain ⟨k, rfl, hk, hbel, hne⟩ := hrel
    have HB : Hid (Below w.heap.size w wr) := hbel
    have HNe : Hid (∀ j, j < k → algN j ≠ l) := hne
    clear hbel hne
    by_cases hlt : k < 13
    · have q0 : decide ((k : Int) < 13) = true := decide_eq_true (by omega)
      have hixk := hix k hlt
      have HBn : Hid (Below w.heap.size w (wr.alloc (.cells #[.string ⟨(algN k).toArray⟩, .int .i64 (algK k), .string ⟨(algC k).toArray⟩] 82))) := HB.out.trans ((alloc_below _ _).mono HB.out.size)
      obtain ⟨nk, hnk⟩ : ∃ n, algN k = n := ⟨_, rfl⟩
      rw [hnk] at hixk HBn
      generalize algK k = kk at hixk HBn
      generalize algC k = ck at hixk HBn
      by_cases he : nk = l
      · subst he
        have HF : Hid (ofF nk = k) := of_hit hlt HNe.out hnk
        clear hnk HNe hix hcl
        go_wp2
        go_ret
        rw [HF.out]
        exact ⟨rfl, HBn.out⟩
      · have qs : (nk == l) = false := by simpa using he
        have HN2 : Hid (∀ j, j < k + 1 → algN j ≠ l) := fun j hj => by
          rcases Nat.lt_or_ge j k with h | h
          · exact HNe.out j h
          · obtain rfl : j = k := by omega
            rw [hnk]; exact he
        clear hnk HNe he hcl hix
        go_wp2
        go_roundw
        case rel => exact ⟨k + 1, by go_num, by omega, HBn.out, HN2.out⟩
        case measure => simp [intOf]; omega
    · have q0 : decide ((k : Int) < 13) = false := decide_eq_false (by omega)
      have HF : Hid (ofF l = 0) := of_miss fun j hj => HNe.out j (by omega)
      clear hix hcl
      go_wp2
      go_ret
      rw [HF.out]
      exact ⟨rfl, HB.out⟩

/-- The document's names, as a list of its own. -/
def nmCs : List Value := (List.range 13).map fun k => .string ⟨(algN k).toArray⟩
set_option maxRecDepth 100000 in
theorem names_any (w : World) : Calls Tryz.prog 18 #[] w fun e w' => e = .returned (.slice (some ⟨w.heap.size, 0, none⟩) 13 13) ∧ w' = w.alloc (.cells nmCs.toArray 9) := by
  go_enter Tryz.func18, Tryz.ntmps18
  go_wp2
  go_ret
  exact ⟨rfl, rfl⟩
theorem nm_cell (w : World) {k : Nat} (hk : k < 13) : (w.alloc (.cells nmCs.toArray 9)).cell? ⟨w.heap.size, k, none⟩ = some (.string ⟨(algN k).toArray⟩) := by
  have h : Bl 9 (w.alloc (.cells nmCs.toArray 9)) w.heap.size nmCs := alloc_bl _ _ _
  have := h.cell k (by simpa [nmCs] using hk)
  rw [this]
  simp [nmCs]

set_option maxRecDepth 100000 in
set_option maxHeartbeats 4000000 in
theorem rof_any (l : List UInt8) (w : World) : Calls Tryz.prog 11 #[.string ⟨l.toArray⟩] w fun e w' => e = .returned (.int .i64 (ofF l)) ∧ Below w.heap.size w w' := by
  have C0 := names_any w
  have HC : Hid (∀ k, k < 13 → (w.alloc (.cells nmCs.toArray 9)).cell? ⟨w.heap.size, k, none⟩ = some (.string ⟨(algN k).toArray⟩)) := fun k hk => nm_cell w hk
  have HB : Hid (Below w.heap.size w (w.alloc (.cells nmCs.toArray 9))) := alloc_below _ _
  generalize w.alloc (.cells nmCs.toArray 9) = w1 at C0 HC HB
  go_enter Tryz.func11, Tryz.ntmps11
  go_wp2_with fail
  refine C0.mono ?_
  clear C0
  rintro e w2 ⟨rfl, rfl⟩
  go_wp2
  go_loopw [4] (fun s4 wx => ∃ k : Nat, s4 = .int .i64 k ∧ 1 ≤ k ∧ k ≤ 13 ∧ wx = w2 ∧ ∀ j, 1 ≤ j → j < k → algN j ≠ l) (fun s _ => 13 - (intOf s).toNat)
  case atStart => exact ⟨1, rfl, by omega, by omega, rfl, fun j h1 h2 => by omega⟩
  case round =>
    obtain ⟨k, rfl, hk1, hk, rfl, hne⟩ := hrel
    have HNe : Hid (∀ j, 1 ≤ j → j < k → algN j ≠ l) := hne
    clear hne
    by_cases hlt : k < 13
    · have q0 : decide ((k : Int) < 13) = true := decide_eq_true (by omega)
      have hc := HC.out k hlt
      obtain ⟨nk, hnk⟩ : ∃ n, algN k = n := ⟨_, rfl⟩
      rw [hnk] at hc
      by_cases he : nk = l
      · subst he
        have HF : Hid (ofF nk = k) := of_hit hlt (fun j hj => by
          rcases Nat.eq_zero_or_pos j with rfl | h0
          · intro e
            have h1 := alg_ne k hlt hk1
            rw [hnk] at h1
            exact h1 e.symm
          · exact HNe.out j h0 hj) hnk
        clear hnk HNe
        go_wp2
        go_ret
        rw [HF.out]
        exact ⟨rfl, HB.out⟩
      · have qs : (nk == l) = false := by simpa using he
        have HN2 : Hid (∀ j, 1 ≤ j → j < k + 1 → algN j ≠ l) := fun j h1 hj => by
          rcases Nat.lt_or_ge j k with h | h
          · exact HNe.out j h1 h
          · obtain rfl : j = k := by omega
            rw [hnk]; exact he
        clear hnk HNe he
        go_wp2
        go_roundw
        case rel => exact ⟨k + 1, by go_num, by omega, by omega, trivial, HN2.out⟩
        case measure => simp [intOf]; omega
    · have q0 : decide ((k : Int) < 13) = false := decide_eq_false (by omega)
      have HF : Hid (ofF l = 0) := by
        show _ = _
        by_cases h0 : l = []
        · subst h0
          exact of_hit (by omega) (fun j hj => by omega) rfl
        · exact of_miss fun j hj => by
            rcases Nat.eq_zero_or_pos j with rfl | hp
            · exact fun e => h0 e.symm
            · exact HNe.out j hp (by omega)
      go_wp2
      go_ret
      rw [HF.out]
      exact ⟨rfl, HB.out⟩

end Go.Proofs.YtkaiecpdkieedaaGreatDoor

namespace Go.Proofs.YtkaiecpdkieedaaGreatDoor
open Go.RowKit

/-- A header. -/
structure Hd where
  alg : Int
  kid : List UInt8
  typ : List UInt8
  has : Bool
deriving DecidableEq
/-- A header that is being read; whether its alg and kid have been met. -/
structure Hs where
  h : Hd
  a : Bool
  k : Bool
deriving DecidableEq
def hd0 : Hd := ⟨0, [], [], false⟩
def hs0 : Hs := ⟨hd0, false, false⟩
abbrev kA : List UInt8 := [97, 108, 103]
abbrev kK : List UInt8 := [107, 105, 100]
abbrev kT : List UInt8 := [116, 121, 112]

/-- What a member sets; none: it may not stand in a header. -/
def setH (n : Nd) (s : Hs) : Option Hs :=
  if n.kind ≠ 5 then none
  else if n.key = kA then some ⟨⟨(ofF n.text : Int), s.h.kid, s.h.typ, s.h.has⟩, true, s.k⟩
  else if n.key = kK then some ⟨⟨s.h.alg, n.text, s.h.typ, s.h.has⟩, s.a, true⟩
  else if n.key = kT then some ⟨⟨s.h.alg, s.h.kid, n.text, true⟩, s.a, s.k⟩
  else none
def rdL (v : List Nd) : List Nat → Hs → Option Hs
  | [], s => some s
  | k :: r, s => match setH (v.getD k (nd0 0)) s with
    | none => none
    | some s' => rdL v r s'
def readF (v : List Nd) : Option Hs :=
  if (v.getD 0 (nd0 0)).kind ≠ 7 then none else
  match rdL v (kidsF v 0) hs0 with
  | none => none
  | some s => if s.a && s.k then some s else none
/-- What Parse answers. -/
def hparseF (t : List UInt8) : Hd × Nat :=
  if (parseF t).2.1 ≠ 0 then (hd0, (parseF t).2.1) else
  match readF (parseF t).1 with
  | none => (hd0, 110)
  | some s => if s.h.alg = 0 then (hd0, 111) else (s.h, 0)
/-- What Allow answers. -/
def allowF (algs : List (List UInt8)) (wt : Bool) (ty : List UInt8) (h : Hd) : Nat :=
  if nameF' h.alg = [] ∨ nameF' h.alg ∉ algs then 112
  else if wt = true ∧ (h.has = false ∨ h.typ ≠ ty) then 113 else 0
/-- A header's value. -/
def wrF (h : Hd) : List Nd :=
  ⟨7, [], [], false, 0, if h.has then 3 else 2⟩ :: ⟨5, kA, nameF' h.alg, false, 0, 0⟩ :: ⟨5, kK, h.kid, false, 0, 0⟩ :: (if h.has then [⟨5, kT, h.typ, false, 0, 0⟩] else [])
/-- What Print answers. -/
def hprintF (h : Hd) : List UInt8 × Nat :=
  if nameF' h.alg = [] then ([], 111)
  else if Lib.validD h.kid = false ∨ (h.has = true ∧ Lib.validD h.typ = false) then ([], 110)
  else printF (wrF h)

theorem alg_inj : ∀ j, j < 13 → ∀ k, k < 13 → algN j = algN k → j = k := by decide +kernel
theorem of_name {k : Nat} (hk : k < 13) : ofF (algN k) = k := of_hit hk (fun j hj e => by have := alg_inj j (by omega) k hk e; omega) rfl
theorem of_lt (l : List UInt8) : ofF l < 13 := by
  unfold ofF
  cases h : (List.range 13).find? (fun k => decide (algN k = l)) with
  | none => decide
  | some k =>
    have := List.mem_of_find?_eq_some h
    simpa using this
theorem name_of {l : List UInt8} (h : ofF l ≠ 0) : nameF' (ofF l : Int) = l := by
  have hl := of_lt l
  unfold nameF'
  rw [if_pos ⟨by omega, by omega⟩, Int.toNat_natCast]
  unfold ofF at h ⊢
  cases e : (List.range 13).find? (fun k => decide (algN k = l)) with
  | none => rw [e] at h; exact absurd rfl h
  | some k =>
    have := List.find?_some e
    simpa using this
theorem name_in {a : Int} (h : nameF' a ≠ []) : 1 ≤ a ∧ a ≤ 12 ∧ (ofF (nameF' a) : Int) = a := by
  unfold nameF' at h ⊢
  split at h
  · rename_i h0
    have hk : a.toNat < 13 := by omega
    rw [if_pos h0, of_name hk]
    refine ⟨?_, by omega, by omega⟩
    rcases (show a = 0 ∨ 1 ≤ a by omega) with rfl | h1
    · exact absurd rfl h
    · exact h1
  · exact absurd rfl h
theorem name_ne {a : Int} (h1 : 1 ≤ a) (h2 : a ≤ 12) : nameF' a ≠ [] := by
  unfold nameF'
  rw [if_pos ⟨by omega, by omega⟩]
  exact alg_ne _ (by omega) (by omega)

/-- The orders in which a header's members may stand. -/
def Six (ks : List (List UInt8)) : Prop := ks = [kA, kK] ∨ ks = [kK, kA] ∨ ks = [kA, kK, kT] ∨ ks = [kA, kT, kK] ∨ ks = [kK, kA, kT] ∨ ks = [kK, kT, kA] ∨ ks = [kT, kA, kK] ∨ ks = [kT, kK, kA]
theorem six_in {ks : List (List UInt8)} (hn : ks.Nodup) (hs : ∀ k ∈ ks, k = kA ∨ k = kK ∨ k = kT) (ha : kA ∈ ks) (hk : kK ∈ ks) : Six ks := by
  unfold Six
  match ks, hn, hs, ha, hk with
  | [], _, _, ha, _ => simp at ha
  | [x], _, hs, ha, hk => simp at ha hk; rw [← ha] at hk; exact absurd hk (by decide)
  | [x, y], hn, hs, ha, hk =>
    rcases hs x (by simp) with rfl | rfl | rfl <;> rcases hs y (by simp) with rfl | rfl | rfl <;> first | (exfalso; revert hn; decide) | (exfalso; revert ha; decide) | (exfalso; revert hk; decide) | decide
  | [x, y, z], hn, hs, ha, hk =>
    rcases hs x (by simp) with rfl | rfl | rfl <;> rcases hs y (by simp) with rfl | rfl | rfl <;> rcases hs z (by simp) with rfl | rfl | rfl <;> first | (exfalso; revert hn; decide) | decide
  | x :: y :: z :: u :: r, hn, hs, _, _ =>
    have hx := hs x (by simp)
    have hy := hs y (by simp)
    have hz := hs z (by simp)
    have hu := hs u (by simp)
    have n1 : x ≠ y ∧ x ≠ z ∧ x ≠ u ∧ y ≠ z ∧ y ≠ u ∧ z ≠ u := by
      simp only [List.nodup_cons, List.mem_cons, not_or] at hn
      exact ⟨hn.1.1, hn.1.2.1, hn.1.2.2.1, hn.2.1.1, hn.2.1.2.1, hn.2.2.1.1⟩
    exfalso
    rcases hx with rfl | rfl | rfl <;> rcases hy with rfl | rfl | rfl <;> rcases hz with rfl | rfl | rfl <;> rcases hu with rfl | rfl | rfl <;> first | exact n1.1 rfl | exact n1.2.1 rfl | exact n1.2.2.1 rfl | exact n1.2.2.2.1 rfl | exact n1.2.2.2.2.1 rfl | exact n1.2.2.2.2.2 rfl
theorem six_len {ks : List (List UInt8)} (ha : kA ∈ ks) (hk : kK ∈ ks) (hl : (ks.length = 2 ∧ kT ∉ ks) ∨ (ks.length = 3 ∧ kT ∈ ks)) : Six ks := by
  unfold Six
  rcases hl with ⟨hl, -⟩ | ⟨hl, ht⟩
  · match ks, hl with
    | [x, y], _ =>
      simp only [List.mem_cons, List.not_mem_nil, or_false] at ha hk
      rcases ha with rfl | rfl <;> rcases hk with hk | hk
      · exact absurd hk (by decide)
      · subst hk; decide
      · subst hk; decide
      · exact absurd hk (by decide)
  · match ks, hl with
    | [x, y, z], _ =>
      simp only [List.mem_cons, List.not_mem_nil, or_false] at ha hk ht
      rcases ha with rfl | rfl | rfl <;> rcases hk with hk | hk | hk <;> first | (exact absurd hk (by decide)) | (subst hk; rcases ht with ht | ht | ht <;> first | (exact absurd ht (by decide)) | (subst ht; decide))

end Go.Proofs.YtkaiecpdkieedaaGreatDoor

namespace Go.Proofs.YtkaiecpdkieedaaGreatDoor
open Go.RowKit

/-- The names at these places. -/
abbrev kys (v : List Nd) (K : List Nat) : List (List UInt8) := K.map fun i => (v.getD i (nd0 0)).key
theorem mem_neg {v : List Nd} {key : List UInt8} : ∀ K : List Nat, key ∉ kys v K → memL v key K = -1
  | [], _ => rfl
  | k :: r, h => by
    simp only [kys, List.map_cons, List.mem_cons, not_or] at h
    unfold memL
    rw [if_neg (fun e => h.1 e.symm)]
    exact mem_neg r h.2
theorem mem_pos {v : List Nd} {key : List UInt8} : ∀ K : List Nat, key ∈ kys v K → ∃ i ∈ K, memL v key K = (i : Int) ∧ (v.getD i (nd0 0)).key = key
  | [], h => by simp [kys] at h
  | k :: r, h => by
    unfold memL
    split
    · rename_i e
      exact ⟨k, by simp, rfl, e⟩
    · rename_i e
      simp only [kys, List.map_cons, List.mem_cons] at h
      obtain ⟨i, hi, h1, h2⟩ := mem_pos r (h.resolve_left fun x => e x.symm)
      exact ⟨i, by simp [hi], h1, h2⟩
theorem mem_ge {v : List Nd} {key : List UInt8} {K : List Nat} (h : 0 ≤ memL v key K) : key ∈ kys v K := by
  by_cases hm : key ∈ kys v K
  · exact hm
  · rw [mem_neg K hm] at h
    omega
theorem rd_ok {v : List Nd} : ∀ (K : List Nat) (s s' : Hs), rdL v K s = some s' → (∀ i ∈ K, (v.getD i (nd0 0)).kind = 5 ∧ ((v.getD i (nd0 0)).key = kA ∨ (v.getD i (nd0 0)).key = kK ∨ (v.getD i (nd0 0)).key = kT)) ∧ (s'.a = true → s.a = true ∨ kA ∈ kys v K) ∧ (s'.k = true → s.k = true ∨ kK ∈ kys v K)
  | [], s, s', h => by
    cases h
    exact ⟨fun i hi => by simp at hi, Or.inl, Or.inl⟩
  | k :: r, s, s', h => by
    unfold rdL at h
    split at h
    · cases h
    · rename_i s1 e
      obtain ⟨h1, h2, h3⟩ := rd_ok r s1 s' h
      unfold setH at e
      have hk5 : (v.getD k (nd0 0)).kind = 5 := by
        by_cases h5 : (v.getD k (nd0 0)).kind = 5
        · exact h5
        · rw [if_pos h5] at e
          cases e
      rw [if_neg (fun hx => hx hk5)] at e
      by_cases ea : (v.getD k (nd0 0)).key = kA
      · rw [if_pos ea] at e
        cases e
        refine ⟨fun i hi => ?_, fun _ => Or.inr (by simp only [kys, List.map_cons, List.mem_cons]; exact Or.inl ea.symm), fun hx => (h3 hx).imp id fun hx => by simp only [kys, List.map_cons, List.mem_cons]; exact Or.inr hx⟩
        rcases List.mem_cons.1 hi with rfl | hi
        · exact ⟨hk5, Or.inl ea⟩
        · exact h1 i hi
      · rw [if_neg ea] at e
        by_cases ek : (v.getD k (nd0 0)).key = kK
        · rw [if_pos ek] at e
          cases e
          refine ⟨fun i hi => ?_, fun hx => (h2 hx).imp id fun hx => by simp only [kys, List.map_cons, List.mem_cons]; exact Or.inr hx, fun _ => Or.inr (by simp only [kys, List.map_cons, List.mem_cons]; exact Or.inl ek.symm)⟩
          rcases List.mem_cons.1 hi with rfl | hi
          · exact ⟨hk5, Or.inr (Or.inl ek)⟩
          · exact h1 i hi
        · rw [if_neg ek] at e
          by_cases et : (v.getD k (nd0 0)).key = kT
          · rw [if_pos et] at e
            cases e
            refine ⟨fun i hi => ?_, fun hx => (h2 hx).imp id fun hx => by simp only [kys, List.map_cons, List.mem_cons]; exact Or.inr hx, fun hx => (h3 hx).imp id fun hx => by simp only [kys, List.map_cons, List.mem_cons]; exact Or.inr hx⟩
            rcases List.mem_cons.1 hi with rfl | hi
            · exact ⟨hk5, Or.inr (Or.inr et)⟩
            · exact h1 i hi
          · rw [if_neg et] at e
            cases e

/-- What is read of the members, in whichever order. -/
theorem six_rd {v : List Nd} {K : List Nat} (h6 : Six (kys v K)) (h5 : ∀ i ∈ K, (v.getD i (nd0 0)).kind = 5) : ∃ a k : Nat, memL v kA K = (a : Int) ∧ memL v kK K = (k : Int) ∧ a ∈ K ∧ k ∈ K ∧ (v.getD a (nd0 0)).key = kA ∧ (v.getD k (nd0 0)).key = kK ∧
    ((K.length = 2 ∧ memL v kT K = -1 ∧ (∀ f : Nd → Nat, (K.map fun i => f (v.getD i (nd0 0))).sum = f (v.getD a (nd0 0)) + f (v.getD k (nd0 0))) ∧ rdL v K hs0 = some ⟨⟨(ofF (v.getD a (nd0 0)).text : Int), (v.getD k (nd0 0)).text, [], false⟩, true, true⟩) ∨
     (K.length = 3 ∧ ∃ t : Nat, memL v kT K = (t : Int) ∧ t ∈ K ∧ (v.getD t (nd0 0)).key = kT ∧ (∀ f : Nd → Nat, (K.map fun i => f (v.getD i (nd0 0))).sum = f (v.getD a (nd0 0)) + f (v.getD k (nd0 0)) + f (v.getD t (nd0 0))) ∧ rdL v K hs0 = some ⟨⟨(ofF (v.getD a (nd0 0)).text : Int), (v.getD k (nd0 0)).text, (v.getD t (nd0 0)).text, true⟩, true, true⟩)) := by
  have nAK : kA ≠ kK := by decide
  have nKA : kK ≠ kA := by decide
  have nAT : kA ≠ kT := by decide
  have nTA : kT ≠ kA := by decide
  have nKT : kK ≠ kT := by decide
  have nTK : kT ≠ kK := by decide
  have two : ∀ x y : List UInt8, kys v K = [x, y] → ∃ i j, K = [i, j] ∧ (v.getD i (nd0 0)).key = x ∧ (v.getD j (nd0 0)).key = y := fun x y e => by
    have hl := congrArg List.length e
    rw [List.length_map] at hl
    match K, hl with
    | [i, j], _ => simp only [kys, List.map_cons, List.map_nil, List.cons.injEq, and_true] at e; exact ⟨i, j, rfl, e.1, e.2⟩
  have thr : ∀ x y z : List UInt8, kys v K = [x, y, z] → ∃ i j l, K = [i, j, l] ∧ (v.getD i (nd0 0)).key = x ∧ (v.getD j (nd0 0)).key = y ∧ (v.getD l (nd0 0)).key = z := fun x y z e => by
    have hl := congrArg List.length e
    rw [List.length_map] at hl
    match K, hl with
    | [i, j, l], _ => simp only [kys, List.map_cons, List.map_nil, List.cons.injEq, and_true] at e; exact ⟨i, j, l, rfl, e.1, e.2.1, e.2.2⟩
  rcases h6 with e | e | e | e | e | e | e | e
  · obtain ⟨i, j, rfl, e1, e2⟩ := two _ _ e
    have k1 := h5 i (by simp); have k2 := h5 j (by simp)
    refine ⟨i, j, ?_, ?_, by simp, by simp, e1, e2, Or.inl ⟨rfl, ?_, fun f => by simp only [List.map_cons, List.map_nil, List.sum_cons, List.sum_nil]; omega, ?_⟩⟩ <;> simp only [memL, rdL, setH, hs0, hd0, e1, e2, k1, k2, nAK, nKA, nAT, nKT, ne_eq, not_true_eq_false, if_false, if_true]
  · obtain ⟨i, j, rfl, e1, e2⟩ := two _ _ e
    have k1 := h5 i (by simp); have k2 := h5 j (by simp)
    refine ⟨j, i, ?_, ?_, by simp, by simp, e2, e1, Or.inl ⟨rfl, ?_, fun f => by simp only [List.map_cons, List.map_nil, List.sum_cons, List.sum_nil]; omega, ?_⟩⟩ <;> simp only [memL, rdL, setH, hs0, hd0, e1, e2, k1, k2, nAK, nKA, nAT, nKT, ne_eq, not_true_eq_false, if_false, if_true]
  · obtain ⟨i, j, l, rfl, e1, e2, e3⟩ := thr _ _ _ e
    have k1 := h5 i (by simp); have k2 := h5 j (by simp); have k3 := h5 l (by simp)
    refine ⟨i, j, ?_, ?_, by simp, by simp, e1, e2, Or.inr ⟨rfl, l, ?_, by simp, e3, fun f => by simp only [List.map_cons, List.map_nil, List.sum_cons, List.sum_nil]; omega, ?_⟩⟩ <;> simp only [memL, rdL, setH, hs0, hd0, e1, e2, e3, k1, k2, k3, nAK, nKA, nAT, nTA, nKT, nTK, ne_eq, not_true_eq_false, if_false, if_true]
  · obtain ⟨i, j, l, rfl, e1, e2, e3⟩ := thr _ _ _ e
    have k1 := h5 i (by simp); have k2 := h5 j (by simp); have k3 := h5 l (by simp)
    refine ⟨i, l, ?_, ?_, by simp, by simp, e1, e3, Or.inr ⟨rfl, j, ?_, by simp, e2, fun f => by simp only [List.map_cons, List.map_nil, List.sum_cons, List.sum_nil]; omega, ?_⟩⟩ <;> simp only [memL, rdL, setH, hs0, hd0, e1, e2, e3, k1, k2, k3, nAK, nKA, nAT, nTA, nKT, nTK, ne_eq, not_true_eq_false, if_false, if_true]
  · obtain ⟨i, j, l, rfl, e1, e2, e3⟩ := thr _ _ _ e
    have k1 := h5 i (by simp); have k2 := h5 j (by simp); have k3 := h5 l (by simp)
    refine ⟨j, i, ?_, ?_, by simp, by simp, e2, e1, Or.inr ⟨rfl, l, ?_, by simp, e3, fun f => by simp only [List.map_cons, List.map_nil, List.sum_cons, List.sum_nil]; omega, ?_⟩⟩ <;> simp only [memL, rdL, setH, hs0, hd0, e1, e2, e3, k1, k2, k3, nAK, nKA, nAT, nTA, nKT, nTK, ne_eq, not_true_eq_false, if_false, if_true]
  · obtain ⟨i, j, l, rfl, e1, e2, e3⟩ := thr _ _ _ e
    have k1 := h5 i (by simp); have k2 := h5 j (by simp); have k3 := h5 l (by simp)
    refine ⟨l, i, ?_, ?_, by simp, by simp, e3, e1, Or.inr ⟨rfl, j, ?_, by simp, e2, fun f => by simp only [List.map_cons, List.map_nil, List.sum_cons, List.sum_nil]; omega, ?_⟩⟩ <;> simp only [memL, rdL, setH, hs0, hd0, e1, e2, e3, k1, k2, k3, nAK, nKA, nAT, nTA, nKT, nTK, ne_eq, not_true_eq_false, if_false, if_true]
  · obtain ⟨i, j, l, rfl, e1, e2, e3⟩ := thr _ _ _ e
    have k1 := h5 i (by simp); have k2 := h5 j (by simp); have k3 := h5 l (by simp)
    refine ⟨j, l, ?_, ?_, by simp, by simp, e2, e3, Or.inr ⟨rfl, i, ?_, by simp, e1, fun f => by simp only [List.map_cons, List.map_nil, List.sum_cons, List.sum_nil]; omega, ?_⟩⟩ <;> simp only [memL, rdL, setH, hs0, hd0, e1, e2, e3, k1, k2, k3, nAK, nKA, nAT, nTA, nKT, nTK, ne_eq, not_true_eq_false, if_false, if_true]
  · obtain ⟨i, j, l, rfl, e1, e2, e3⟩ := thr _ _ _ e
    have k1 := h5 i (by simp); have k2 := h5 j (by simp); have k3 := h5 l (by simp)
    refine ⟨l, j, ?_, ?_, by simp, by simp, e3, e2, Or.inr ⟨rfl, i, ?_, by simp, e1, fun f => by simp only [List.map_cons, List.map_nil, List.sum_cons, List.sum_nil]; omega, ?_⟩⟩ <;> simp only [memL, rdL, setH, hs0, hd0, e1, e2, e3, k1, k2, k3, nAK, nKA, nAT, nTA, nKT, nTK, ne_eq, not_true_eq_false, if_false, if_true]

theorem valid_alg : ∀ k, k < 13 → Lib.validD (algN k) = true := by decide +kernel
theorem valid_name (a : Int) : Lib.validD (nameF' a) = true := by
  unfold nameF'
  split
  · exact valid_alg _ (by omega)
  · decide +kernel
theorem wm_hs {k l : List UInt8} {d : Int} (h : Lib.validD l = true) : wmF ⟨5, k, l, false, 0, 0⟩ d = true := by
  simp [wmF, h, nd0]
theorem keys_str : KeysOK 5 [] := ⟨fun h => (by cases h), fun h => (by cases h)⟩
theorem keys_two : KeysOK 7 [kA, kK] := ⟨fun h => (by cases h), fun _ => (by decide +kernel)⟩
theorem keys_thr : KeysOK 7 [kA, kK, kT] := ⟨fun h => (by cases h), fun _ => (by decide +kernel)⟩
theorem sq_str {d : Int} {k l : List UInt8} {ks : List (List UInt8)} {r : List Nd} (h : Lib.validD l = true) (hr : Sq d ks r) : Sq d (k :: ks) (⟨5, k, l, false, 0, 0⟩ :: r) := by
  have := Sq.cons (n := ⟨5, k, l, false, 0, 0⟩) (wm_hs h) (Sq.nil (d + 1)) rfl keys_str hr
  exact this
theorem wr_sq {h : Hd} (hk : Lib.validD h.kid = true) (ht : h.has = true → Lib.validD h.typ = true) : Sq 0 [[]] (wrF h) := by
  unfold wrF
  cases e : h.has
  · exact Sq.one (n := ⟨7, [], [], false, 0, 2⟩) (by decide) (sq_str (valid_name _) (sq_str hk (Sq.nil _))) rfl keys_two
  · exact Sq.one (n := ⟨7, [], [], false, 0, 3⟩) (by decide) (sq_str (valid_name _) (sq_str hk (sq_str (ht e) (Sq.nil _)))) rfl keys_thr
theorem kids_wr (h : Hd) : kidsF (wrF h) 0 = if h.has then [1, 2, 3] else [1, 2] := by
  have hw : wrap64 (-1) = -1 := wrap_small (by decide) (by decide)
  have hw0 : wrap64 0 = 0 := wrap_small (by decide) (by decide)
  unfold wrF
  cases h.has
  · simp [kidsF, kidsL, bhN, bhF, hw, hw0]
  · simp [kidsF, kidsL, bhN, bhF, hw, hw0]
theorem read_wr (h : Hd) : readF (wrF h) = some ⟨⟨(ofF (nameF' h.alg) : Int), h.kid, if h.has then h.typ else [], h.has⟩, true, true⟩ := by
  unfold readF
  rw [kids_wr]
  unfold wrF
  cases e : h.has
  · simp [rdL, setH, hs0, hd0]
  · simp [rdL, setH, hs0, hd0]

end Go.Proofs.YtkaiecpdkieedaaGreatDoor

namespace Go.Proofs.YtkaiecpdkieedaaGreatDoor
open Go.RowKit

/-- What is told of a value's first node. -/
structure Top (v : List Nd) : Prop where
  pos : 0 < v.length
  ch : Ch v 1 (kidsF v 0) v.length
  ln : ((kidsF v 0).length : Int) = (v.getD 0 (nd0 0)).kids
  nd : (v.getD 0 (nd0 0)).kind = 7 → (kys v (kidsF v 0)).Nodup
theorem top_of {v : List Nd} (h : Sq 0 [[]] v) (hl : v.length ≤ 262144) : Top v := by
  have h1 := h.len
  have h2 := Sq.behind h (pre := []) (post := []) (v := v) (by simp) (by omega)
  simp only [List.length_cons, List.length_nil, Nat.zero_add] at h1 h2
  obtain ⟨d, n, ks, r, pre, post, hd, hv, hp, hw, hr, hn, hk⟩ := h.at 0 (by omega)
  obtain rfl : pre = [] := List.length_eq_zero_iff.1 hp
  have hg : v.getD 0 (nd0 0) = n := by rw [hv]; simp
  have hlen : v.length = 1 + r.length + post.length := by rw [hv]; simp; omega
  have hb : bhN v 0 = 1 + r.length := by
    have := Sq.behind (Sq.one hw hr hn hk) (pre := []) (post := post) (v := v) hv (by simp only [List.length_cons]; omega)
    simp only [List.length_cons, List.length_nil, Nat.zero_add] at this
    omega
  have hkid := hr.kids [n] post v (v.length + 1) (by rw [hv]; simp) (by omega) (by simp only [List.length_cons, List.length_nil]; omega)
  simp only [List.length_cons, List.length_nil, Nat.zero_add] at hkid
  rw [← hn] at hkid
  have hkF : kidsF v 0 = kidsL v (v.length + 1) 1 n.kids := by
    unfold kidsF
    rw [if_pos ⟨by omega, by omega⟩, show (0 : Int).toNat = 0 from rfl, hg]
  refine ⟨by omega, ?_, ?_, ?_⟩
  · rw [hkF]
    have := hkid.1
    rwa [show 1 + r.length = v.length by omega] at this
  · rw [hkF, hg, hn]
    have := congrArg List.length hkid.2
    rw [List.length_map, hn] at this
    omega
  · intro h7
    rw [hg] at h7
    unfold kys
    rw [hkF, hkid.2]
    exact (hk.2 h7).2
/-- A string takes one node; its text is valid. -/
theorem str_of' {v : List Nd} (h : Sq 0 [[]] v) (hl : v.length ≤ 262144) {i : Nat} (hi : i < v.length) (h5 : (v.getD i (nd0 0)).kind = 5) : bhN v i = i + 1 ∧ Lib.validD (v.getD i (nd0 0)).text = true := by
  obtain ⟨d, n, ks, r, pre, post, hd, hv, hp, hw, hr, hn, hk⟩ := h.at i hi
  have hlen : v.length = pre.length + (1 + r.length + post.length) := by rw [hv]; simp; omega
  have hg : v.getD i (nd0 0) = n := by rw [hv, ← hp]; simp
  have hb : bhN v i = i + (1 + r.length) := by
    rw [← hp, Sq.behind (Sq.one hw hr hn hk) (pre := pre) (post := post) (v := v) hv (by simp only [List.length_cons]; omega)]
    simp only [List.length_cons]
    omega
  rw [hg] at h5 ⊢
  have hk0 := (wm_kids2 hw).2.1 (by omega)
  have hks : ks = [] := List.length_eq_zero_iff.1 (by omega)
  subst hks
  have hr0 : r = [] := by cases hr; rfl
  rw [hr0] at hb
  refine ⟨by simpa using hb, ?_⟩
  unfold wmF at hw
  rw [h5] at hw
  simp at hw
  exact hw.1

theorem mem_first' {v : List Nd} : ∀ {L : List Nat}, (kys v L).Nodup → ∀ {j : Nat} (hj : j < L.length), memL v (v.getD L[j] (nd0 0)).key L = (L[j] : Int)
  | [], _, j, hj => by simp at hj
  | k :: r, hn, 0, hj => by
    unfold memL
    exact if_pos rfl
  | k :: r, hn, j + 1, hj => by
    simp only [kys, List.map_cons, List.nodup_cons] at hn
    have hj2 : j < r.length := by simpa using hj
    unfold memL
    rw [List.getElem_cons_succ, if_neg]
    · exact mem_first' hn.2 hj2
    · intro e
      exact hn.1 (List.mem_map.2 ⟨r[j], List.getElem_mem hj2, e.symm⟩)
theorem memF_at {v : List Nd} (hT : Top v) (h7 : (v.getD 0 (nd0 0)).kind = 7) (key : List UInt8) : memF v 0 key = memL v key (kidsF v 0) := by
  unfold memF
  rw [if_pos ⟨by omega, by have := hT.pos; omega, h7⟩]
theorem memF_rg (v : List Nd) (key : List UInt8) : memF v 0 key = -1 ∨ ∃ i : Nat, memF v 0 key = (i : Int) ∧ i < v.length := by
  unfold memF
  split
  · by_cases hm : key ∈ kys v (kidsF v 0)
    · obtain ⟨i, hi, h1, h2⟩ := mem_pos _ hm
      exact Or.inr ⟨i, h1, kidsF_lt i hi⟩
    · exact Or.inl (mem_neg _ hm)
  · exact Or.inl rfl

/-- What the law calls good. -/
def goodF (v : List Nd) : Prop := (v.getD 0 (nd0 0)).kind = 7 ∧ (v.getD 0 (nd0 0)).kids = (if 0 ≤ memF v 0 kT then 3 else 2) ∧ 0 ≤ memF v 0 kA ∧ 0 ≤ memF v 0 kK ∧ (v.getD (memF v 0 kA).toNat (nd0 0)).kind = 5 ∧ (v.getD (memF v 0 kK).toNat (nd0 0)).kind = 5 ∧ (memF v 0 kT < 0 ∨ (v.getD (memF v 0 kT).toNat (nd0 0)).kind = 5)
/-- A value that is a header, and what is read of it. -/
def GoodAt (v : List Nd) : Prop := ∃ a k : Nat, memF v 0 kA = (a : Int) ∧ memF v 0 kK = (k : Int) ∧ a < v.length ∧ k < v.length ∧ (v.getD 0 (nd0 0)).kind = 7 ∧ (v.getD a (nd0 0)).kind = 5 ∧ (v.getD k (nd0 0)).kind = 5 ∧ (v.getD a (nd0 0)).key = kA ∧ (v.getD k (nd0 0)).key = kK ∧
    (((v.getD 0 (nd0 0)).kids = 2 ∧ memF v 0 kT = -1 ∧ (∀ f : Nd → Nat, ((kidsF v 0).map fun i => f (v.getD i (nd0 0))).sum = f (v.getD a (nd0 0)) + f (v.getD k (nd0 0))) ∧ readF v = some ⟨⟨(ofF (v.getD a (nd0 0)).text : Int), (v.getD k (nd0 0)).text, [], false⟩, true, true⟩) ∨
     ((v.getD 0 (nd0 0)).kids = 3 ∧ ∃ t : Nat, memF v 0 kT = (t : Int) ∧ t < v.length ∧ (v.getD t (nd0 0)).kind = 5 ∧ (v.getD t (nd0 0)).key = kT ∧ (∀ f : Nd → Nat, ((kidsF v 0).map fun i => f (v.getD i (nd0 0))).sum = f (v.getD a (nd0 0)) + f (v.getD k (nd0 0)) + f (v.getD t (nd0 0))) ∧ readF v = some ⟨⟨(ofF (v.getD a (nd0 0)).text : Int), (v.getD k (nd0 0)).text, (v.getD t (nd0 0)).text, true⟩, true, true⟩))
theorem six_good {v : List Nd} (hT : Top v) (h7 : (v.getD 0 (nd0 0)).kind = 7) (h6 : Six (kys v (kidsF v 0))) (h5 : ∀ i ∈ kidsF v 0, (v.getD i (nd0 0)).kind = 5) : GoodAt v := by
  obtain ⟨a, k, ea, ek, ha, hk, ka, kk, h⟩ := six_rd h6 h5
  refine ⟨a, k, (memF_at hT h7 _).trans ea, (memF_at hT h7 _).trans ek, kidsF_lt a ha, kidsF_lt k hk, h7, h5 a ha, h5 k hk, ka, kk, ?_⟩
  have hln := hT.ln
  rcases h with ⟨hl, ht, hs, hr⟩ | ⟨hl, t, ht, htm, kt, hs, hr⟩
  · refine Or.inl ⟨by omega, (memF_at hT h7 _).trans ht, hs, ?_⟩
    unfold readF
    rw [if_neg (fun h => h h7), hr]
    rfl
  · refine Or.inr ⟨by omega, t, (memF_at hT h7 _).trans ht, kidsF_lt t htm, h5 t htm, kt, hs, ?_⟩
    unfold readF
    rw [if_neg (fun h => h h7), hr]
    rfl
theorem GoodAt.good {v : List Nd} (h : GoodAt v) : goodF v := by
  obtain ⟨a, k, ea, ek, -, -, h7, ha5, hk5, -, -, h⟩ := h
  unfold goodF
  rw [ea, ek, Int.toNat_natCast, Int.toNat_natCast]
  rcases h with ⟨h2, et, -, -⟩ | ⟨h3, t, et, -, ht5, -, -, -⟩
  · rw [et]
    exact ⟨h7, h2, by omega, by omega, ha5, hk5, Or.inl (by omega)⟩
  · rw [et, Int.toNat_natCast]
    exact ⟨h7, by rw [if_pos (by omega)]; exact h3, by omega, by omega, ha5, hk5, Or.inr ht5⟩
theorem good_at {v : List Nd} (hT : Top v) (h : goodF v) : GoodAt v := by
  obtain ⟨h7, hk, hA, hK, hA5, hK5, hT5⟩ := h
  have hln := hT.ln
  have hnd := hT.nd h7
  simp only [memF_at hT h7] at hA hK hA5 hK5 hT5 hk
  have mA := mem_ge hA
  have mK := mem_ge hK
  have hl : ((kys v (kidsF v 0)).length = 2 ∧ kT ∉ kys v (kidsF v 0)) ∨ ((kys v (kidsF v 0)).length = 3 ∧ kT ∈ kys v (kidsF v 0)) := by
    rw [List.length_map]
    by_cases hm : kT ∈ kys v (kidsF v 0)
    · obtain ⟨i, -, hi, -⟩ := mem_pos _ hm
      rw [hi, if_pos (by omega)] at hk
      exact Or.inr ⟨by omega, hm⟩
    · rw [mem_neg _ hm, if_neg (by omega)] at hk
      exact Or.inl ⟨by omega, hm⟩
  have h6 := six_len mA mK hl
  have hin : ∀ x ∈ kys v (kidsF v 0), x = kA ∨ x = kK ∨ x = kT := by
    rcases h6 with e | e | e | e | e | e | e | e <;> rw [e] <;> decide
  refine six_good hT h7 h6 fun i hi => ?_
  obtain ⟨j, hj, rfl⟩ := List.mem_iff_getElem.1 hi
  have hf := mem_first' hnd hj
  rcases hin _ (List.mem_map.2 ⟨_, hi, rfl⟩) with e | e | e
  · rw [e] at hf
    rw [hf, Int.toNat_natCast] at hA5
    exact hA5
  · rw [e] at hf
    rw [hf, Int.toNat_natCast] at hK5
    exact hK5
  · rw [e] at hf
    rw [hf, Int.toNat_natCast] at hT5
    exact hT5.resolve_left (by omega)
theorem read_bad {v : List Nd} (hT : Top v) (h : ¬ goodF v) : readF v = none := by
  cases e : readF v with
  | none => rfl
  | some s =>
    exfalso
    apply h
    unfold readF at e
    split at e
    · cases e
    · rename_i h7
      have h7' : (v.getD 0 (nd0 0)).kind = 7 := by
        by_cases hx : (v.getD 0 (nd0 0)).kind = 7
        · exact hx
        · exact absurd hx h7
      split at e
      · cases e
      · rename_i s1 e1
        split at e
        · rename_i hak
          cases e
          obtain ⟨hok, hA, hK⟩ := rd_ok _ _ _ e1
          rw [Bool.and_eq_true] at hak
          have mA := (hA hak.1).resolve_left (by decide)
          have mK := (hK hak.2).resolve_left (by decide)
          refine (six_good hT h7' (six_in (hT.nd h7') (fun x hx => ?_) mA mK) fun i hi => (hok i hi).1).good
          obtain ⟨i, hi, rfl⟩ := List.mem_map.1 hx
          exact (hok i hi).2
        · cases e

end Go.Proofs.YtkaiecpdkieedaaGreatDoor
