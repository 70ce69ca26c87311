import Derived.Test.YtdhfjhdlimmjhaaGreatDoorYZ
import Derived.Test.YtdhfjhdlimmjhaaGreatDoorDZ
import Derived.Test.YtdhfjhdlimmjhaaGreatDoorDcB
namespace Go.Proofs.YtdhfjhdlimmjhaaGreatDoor
open Go.RowKit

def tlF (v : List Nd) (tk : Nat → Option Nat) (ob : Bool) : Nat → Int → Nat → List (List UInt8) → Option Nat
  | 0, n, i, _ => if 0 < n then none else some i
  | f + 1, n, i, ns => if 0 < n then (match tk i with
      | none => none
      | some j => if ob = true ∧ (v.getD i (nd0 0)).key ∈ ns then none else tlF v tk ob f (n - 1) j (ns ++ [(v.getD i (nd0 0)).key])) else some i
def tkF (v : List Nd) : Nat → Nat → Bool → Int → Option Nat
  | 0, _, _, _ => none
  | f + 1, i, ob, d =>
    if i < v.length ∧ wmF (v.getD i (nd0 0)) d = true ∧ Lib.validD (v.getD i (nd0 0)).key = true ∧ (ob = true ∨ (v.getD i (nd0 0)).key = []) then
      tlF v (fun j => tkF v f j (decide ((v.getD i (nd0 0)).kind = 7)) (d + 1)) (decide ((v.getD i (nd0 0)).kind = 7)) (v.length + 1) (v.getD i (nd0 0)).kids (i + 1) []
    else none
def tshF (v : List Nd) : Bool := match tkF v 33 0 false 0 with
  | some j => decide (j = v.length)
  | none => false

theorem tl_gt {v : List Nd} {tk : Nat → Option Nat} {ob : Bool} (hs : ∀ i j, tk i = some j → i < j ∧ j ≤ v.length) : ∀ (f : Nat) (n : Int) (i : Nat) (ns : List (List UInt8)) (j : Nat), i ≤ v.length → tlF v tk ob f n i ns = some j → i ≤ j ∧ j ≤ v.length
  | 0, n, i, ns, j, hi, h => by
    unfold tlF at h
    split at h
    · cases h
    · cases h; omega
  | f + 1, n, i, ns, j, hi, h => by
    unfold tlF at h
    split at h
    · split at h
      · cases h
      · rename_i k e
        split at h
        · cases h
        · have h1 := hs _ _ e
          have := tl_gt hs f (n - 1) k _ j h1.2 h
          omega
    · cases h; omega
theorem tk_gt {v : List Nd} : ∀ (f i : Nat) (ob : Bool) (d : Int) (j : Nat), tkF v f i ob d = some j → i < j ∧ j ≤ v.length
  | 0, i, ob, d, j, h => by unfold tkF at h; cases h
  | f + 1, i, ob, d, j, h => by
    unfold tkF at h
    split at h
    · rename_i hi
      have := tl_gt (v := v) (fun i2 j2 h2 => tk_gt f i2 _ _ j2 h2) _ _ (i + 1) [] j (by omega) h
      omega
    · cases h

theorem tl_sq {v : List Nd} {tk : Nat → Option Nat} {ob : Bool} {d : Int}
    (hs : ∀ i j, tk i = some j → (i < j ∧ j ≤ v.length) ∧ Sq d [(v.getD i (nd0 0)).key] (cut v i j) ∧ Lib.validD (v.getD i (nd0 0)).key = true ∧ (ob = true ∨ (v.getD i (nd0 0)).key = [])) :
    ∀ (f : Nat) (n : Int) (i : Nat) (ns : List (List UInt8)) (j : Nat), 0 ≤ n → i ≤ v.length → tlF v tk ob f n i ns = some j → i ≤ j ∧ j ≤ v.length ∧ ∃ a : List (List UInt8), (a.length : Int) = n ∧ Sq d a (cut v i j) ∧ (∀ x ∈ a, Lib.validD x = true) ∧ (ob = false → ∀ x ∈ a, x = []) ∧ (ob = true → a.Nodup ∧ ∀ x ∈ a, x ∉ ns)
  | 0, n, i, ns, j, hn, hi, h => by
    unfold tlF at h
    split at h
    · cases h
    · cases h
      exact ⟨Nat.le_refl _, hi, [], by simp; omega, by rw [cut_self]; exact .nil _, fun x hx => by simp at hx, fun _ x hx => by simp at hx, fun _ => ⟨List.nodup_nil, fun x hx => by simp at hx⟩⟩
  | f + 1, n, i, ns, j, hn, hi, h => by
    unfold tlF at h
    split at h
    · split at h
      · cases h
      · rename_i k e
        split at h
        · cases h
        · rename_i hc
          obtain ⟨⟨h1, h2⟩, h3, h4, h5⟩ := hs _ _ e
          obtain ⟨g1, g2, a, g3, g4, g5, g6, g7⟩ := tl_sq hs f (n - 1) k _ j (by omega) h2 h
          refine ⟨by omega, g2, (v.getD i (nd0 0)).key :: a, by simp only [List.length_cons]; omega, ?_, ?_, ?_, ?_⟩
          · rw [cut_app (show i ≤ k by omega) g1]
            exact h3.append g4
          · intro x hx
            rcases List.mem_cons.1 hx with rfl | hx
            · exact h4
            · exact g5 x hx
          · intro ho x hx
            rcases List.mem_cons.1 hx with rfl | hx
            · rcases h5 with h5 | h5
              · rw [ho] at h5; cases h5
              · exact h5
            · exact g6 ho x hx
          · intro ho
            obtain ⟨r1, r2⟩ := g7 ho
            refine ⟨List.nodup_cons.2 ⟨fun hm => r2 _ hm (by simp), r1⟩, fun x hx => ?_⟩
            rcases List.mem_cons.1 hx with rfl | hx
            · exact fun hm => hc ⟨ho, hm⟩
            · exact fun hm => r2 x hx (List.mem_append_left _ hm)
    · cases h
      exact ⟨Nat.le_refl _, hi, [], by simp; omega, by rw [cut_self]; exact .nil _, fun x hx => by simp at hx, fun _ x hx => by simp at hx, fun _ => ⟨List.nodup_nil, fun x hx => by simp at hx⟩⟩
theorem tk_sq {v : List Nd} : ∀ (f i : Nat) (ob : Bool) (d : Int) (j : Nat), tkF v f i ob d = some j → (i < j ∧ j ≤ v.length) ∧ Sq d [(v.getD i (nd0 0)).key] (cut v i j) ∧ Lib.validD (v.getD i (nd0 0)).key = true ∧ (ob = true ∨ (v.getD i (nd0 0)).key = [])
  | 0, i, ob, d, j, h => by unfold tkF at h; cases h
  | f + 1, i, ob, d, j, h => by
    have hgt := tk_gt (f + 1) i ob d j h
    unfold tkF at h
    split at h
    · rename_i hi
      obtain ⟨hi, hw, hk, ho⟩ := hi
      obtain ⟨_, _, a, ha, hsq, h1, h2, h3⟩ := tl_sq (v := v) (d := d + 1) (fun i2 j2 h2 => tk_sq f i2 _ _ j2 h2) _ _ (i + 1) [] j (wm_nn hw) (by omega) h
      have hks : KeysOK (v.getD i (nd0 0)).kind a := ⟨fun h6 => h2 (decide_eq_false (by omega)), fun h7 => ⟨h1, (h3 (decide_eq_true h7)).1⟩⟩
      refine ⟨hgt, ?_, hk, ho⟩
      rw [cut_head hgt.1 hgt.2]
      exact Sq.one hw hsq ha.symm hks
    · cases h

theorem Sq.tk {d : Int} {a : List (List UInt8)} {l : List Nd} (h : Sq d a l) : ∀ (pre post v : List Nd) (f g : Nat) (ob : Bool) (ns : List (List UInt8)), v = pre ++ (l ++ post) → d + f = 33 → (a ≠ [] → d ≤ 32) → (∀ x ∈ a, Lib.validD x = true) → (ob = false → ∀ x ∈ a, x = []) → (ob = true → a.Nodup ∧ ∀ x ∈ a, x ∉ ns) → v.length ≤ g + pre.length →
    tlF v (fun j => tkF v f j ob d) ob g (a.length : Int) pre.length ns = some (pre.length + l.length) := by
  induction h with
  | nil =>
    intro pre post v f g ob ns hv hd hd2 h1 h2 h3 hg
    cases g <;> (unfold tlF; rw [if_neg (by simp)]; rfl)
  | cons hw h1 hn hk h3 ih1 ih2 =>
    rename_i d n ks ks' r1 r2
    intro pre post v f g ob ns hv hd hd2 hva hno hyes hg
    have hlen : v.length = pre.length + (1 + r1.length + r2.length + post.length) := by rw [hv]; simp; omega
    have hd3 : d ≤ 32 := hd2 (by simp)
    have hgn : v.getD pre.length (nd0 0) = n := by rw [hv]; simp
    obtain ⟨f, rfl⟩ : ∃ f', f = f' + 1 := ⟨f - 1, by omega⟩
    obtain ⟨g, rfl⟩ : ∃ g', g = g' + 1 := ⟨g - 1, by omega⟩
    have hwk := wm_kids2 hw
    have hks : n.kind ≠ 6 → n.kind ≠ 7 → ks = [] := fun h6 h7 => by
      have := hwk.2.1 (by omega)
      rw [hn] at this
      exact List.eq_nil_of_length_eq_zero (by omega)
    have k1 : ∀ x ∈ ks, Lib.validD x = true := fun x hx => by
      by_cases h7 : n.kind = 7
      · exact (hk.2 h7).1 x hx
      · by_cases h6 : n.kind = 6
        · rw [hk.1 h6 x hx]; rfl
        · rw [hks h6 h7] at hx; simp at hx
    have k2 : decide (n.kind = 7) = false → ∀ x ∈ ks, x = [] := fun h7 x hx => by
      by_cases h6 : n.kind = 6
      · exact hk.1 h6 x hx
      · rw [hks h6 (of_decide_eq_false h7)] at hx; simp at hx
    have k3 : decide (n.kind = 7) = true → ks.Nodup ∧ ∀ x ∈ ks, x ∉ ([] : List (List UInt8)) := fun h7 => ⟨(hk.2 (of_decide_eq_true h7)).2, fun x _ => by simp⟩
    have e2 := ih1 (pre ++ [n]) (r2 ++ post) v f (v.length + 1) (decide (n.kind = 7)) [] (by rw [hv]; simp) (by omega) (fun hks => by
      have : 0 < n.kids := by
        rw [hn]
        have := List.length_pos_iff.2 hks
        omega
      have := hwk.2.2 this
      omega) k1 k2 k3 (by omega)
    have hpl : (pre ++ [n]).length = pre.length + 1 := by simp
    rw [hpl] at e2
    have hob : ob = true ∨ n.key = [] := by
      cases ob
      · exact .inr (hno rfl _ (by simp))
      · exact .inl rfl
    have htk : tkF v (f + 1) pre.length ob d = some (pre.length + 1 + r1.length) := by
      unfold tkF
      rw [hgn, if_pos ⟨by omega, hw, hva _ (by simp), hob⟩, hn]
      exact e2
    have hpl2 : (pre ++ (n :: r1)).length = pre.length + 1 + r1.length := by simp; omega
    have e3 := ih2 (pre ++ (n :: r1)) post v (f + 1) g ob (ns ++ [n.key]) (by rw [hv]; simp) hd (fun _ => hd3) (fun x hx => hva x (by simp [hx])) (fun ho x hx => hno ho x (by simp [hx])) (fun ho => by
      obtain ⟨y1, y2⟩ := hyes ho
      obtain ⟨z1, z2⟩ := List.nodup_cons.1 y1
      refine ⟨z2, fun x hx hm => ?_⟩
      rcases List.mem_append.1 hm with hm | hm
      · exact y2 x (by simp [hx]) hm
      · rw [List.mem_singleton.1 hm] at hx; exact z1 hx) (by rw [hpl2]; omega)
    rw [hpl2] at e3
    have hnn : ¬ (ob = true ∧ n.key ∈ ns) := fun hc => (hyes hc.1).2 _ (by simp) hc.2
    unfold tlF
    rw [if_pos (by simp only [List.length_cons]; omega)]
    simp only [htk, hgn]
    rw [if_neg hnn, show ((n.key :: ks').length : Int) - 1 = (ks'.length : Int) by simp only [List.length_cons]; omega, e3]
    simp only [List.length_cons, List.length_append]
    congr 1
    omega

theorem tsh_eq (v : List Nd) : tshF v = shapedF v := by
  rw [Bool.eq_iff_iff]
  constructor
  · intro h
    unfold tshF at h
    split at h
    · rename_i j e
      have hj := of_decide_eq_true h
      subst hj
      obtain ⟨h1, h2, _, h4⟩ := tk_sq 33 0 false 0 v.length e
      have hk : (v.getD 0 (nd0 0)).key = [] := h4.elim (fun h => by cases h) id
      rw [hk] at h2
      have hc : cut v 0 v.length = v := by unfold cut; simp
      rw [hc] at h2
      exact h2.shaped
    · cases h
  · intro h
    have hs := shaped_sq h
    have e := hs.tk [] [] v 33 (v.length + 1) false [] (by simp) (by omega) (fun _ => by omega) (fun x hx => by rw [List.mem_singleton.1 hx]; rfl) (fun _ x hx => List.mem_singleton.1 hx) (fun h => by cases h) (by omega)
    unfold tlF at e
    rw [if_pos (by simp)] at e
    split at e
    · cases e
    · rename_i j e2
      have e3 : j = v.length := by
        rw [if_neg (fun h => by cases h.1)] at e
        have : ∀ ns, tlF v (fun j => tkF v 33 j false 0) false v.length 0 j ns = some j := fun ns => by cases v.length <;> (unfold tlF; rw [if_neg (by omega)])
        simp only [List.length_cons, List.length_nil] at e
        rw [show (((0 + 1 : Nat) : Int) - 1) = 0 by omega, this] at e
        simp at e
        omega
      unfold tshF
      simp only [List.length_nil] at e2
      rw [e2]
      exact decide_eq_true e3

def plF (n : Nd) : Bool :=
  if n.kind < 1 ∨ 7 < n.kind ∨ n.kids < 0 ∨ (0 < n.kids ∧ n.kind < 6) then false
  else if n.kind = 4 then (Dec.pcut n.text).isSome && (decide ((Dec.wholeV (Dec.pcut n.text)).2 = n.whole) && decide ((Dec.wholeV (Dec.pcut n.text)).1 = n.int))
  else if n.whole = true ∨ n.int ≠ 0 then false
  else if n.kind = 5 then Lib.validD n.text else decide (n.text = [])
theorem wm_pl (n : Nd) (d : Int) (hd : d ≤ 32) : wmF n d = (plF n && !(decide (6 ≤ n.kind) && decide (d = 32))) := by
  obtain ⟨k, y, t, b, i, c⟩ := n
  have hc : (!decide (c < 0) && !decide (0 < c)) = decide (c = 0) := by rw [Bool.eq_iff_iff]; simp; omega
  have h0 : decide (0 ≤ c) = !decide (c < 0) := by rw [Bool.eq_iff_iff]; simp
  have h3 : decide (d < 32) = !decide (d = 32) := by rw [Bool.eq_iff_iff]; simp; omega
  have hs : ∀ x1 x2 x3 : Bool, (x1 && (!b && (x2 && x3))) = (x3 && (!b && x2 && x1)) := by intro x1 x2 x3; cases b <;> cases x1 <;> cases x2 <;> cases x3 <;> rfl
  have hs2 : ∀ x1 x2 x3 x4 : Bool, (!x1 && !x2 && (x3 && (!b && x4))) = (!x1 && (!b && x4 && x3) && !x2) := by intro x1 x2 x3 x4; cases b <;> cases x1 <;> cases x2 <;> cases x3 <;> cases x4 <;> rfl
  have hk : (k < 1 ∨ 7 < k) ∨ k = 1 ∨ k = 2 ∨ k = 3 ∨ k = 4 ∨ k = 5 ∨ k = 6 ∨ k = 7 := by omega
  rcases hk with h | h | h | h | h | h | h | h
  · unfold wmF plF
    simp only
    rw [if_neg (by omega), if_neg (by omega), if_neg (by omega), if_neg (by omega), if_pos (by omega)]
    rfl
  all_goals subst h
  · simp [wmF, plF, nd0]
    rw [hc]; exact hs _ _ _
  · simp [wmF, plF, nd0]
    rw [hc]; exact hs _ _ _
  · simp [wmF, plF, nd0]
    rw [hc]; exact hs _ _ _
  · simp [wmF, plF, numN, whV]
    rw [hc, show decide (b = (Dec.wholeV (Dec.pcut t)).snd) = decide ((Dec.wholeV (Dec.pcut t)).snd = b) from decide_eq_decide.2 ⟨Eq.symm, Eq.symm⟩, show decide (i = (Dec.wholeV (Dec.pcut t)).fst) = decide ((Dec.wholeV (Dec.pcut t)).fst = i) from decide_eq_decide.2 ⟨Eq.symm, Eq.symm⟩]
    generalize decide ((Dec.wholeV (Dec.pcut t)).snd = b) = x1
    generalize decide ((Dec.wholeV (Dec.pcut t)).fst = i) = x2
    generalize (Dec.pcut t).isSome = x3
    generalize decide (c = 0) = x4
    cases x1 <;> cases x2 <;> cases x3 <;> cases x4 <;> rfl
  · simp [wmF, plF, nd0]
    rw [hc]; exact hs _ _ _
  · simp [wmF, plF, nd0]
    rw [h0, h3]; exact hs2 _ _ _ _
  · simp [wmF, plF, nd0]
    rw [h0, h3]; exact hs2 _ _ _ _

end Go.Proofs.YtdhfjhdlimmjhaaGreatDoor

namespace Go.Proofs.YtdhfjhdlimmjhaaGreatDoor
open Go.RowKit Go.Shelf

theorem chr_valid {t : List UInt8} {p : Nat} (hp : p < t.length) (h128 : 128 ≤ (t.getD p 0).toNat) :
    (∃ (r : Int) (q : Nat), chrF t p = .ok r q ∧ p < q ∧ q ≤ t.length ∧ Lib.validD (t.drop p) = Lib.validD (t.drop q)) ∨ (∃ c b : Nat, c ≠ 0 ∧ chrF t p = .bad c b ∧ Lib.validD (t.drop p) = false) := by
  have hne : t.drop p ≠ [] := fun e => by have := congrArg List.length e; rw [List.length_drop] at this; simp at this; omega
  have h0 : 128 ≤ ((t.drop p).getD 0 0).toNat := by rw [Lib.getD_dropU, Nat.add_zero]; exact h128
  by_cases hv : (Lib.decodeL (t.drop p)).1 = 65533 ∧ (Lib.decodeL (t.drop p)).2 = 1
  · refine .inr ?_
    have hf : Lib.validD (t.drop p) = false := by rw [Lib.validD_step _ hne, if_pos hv]
    by_cases hfu : fullR (t.drop p) = false
    · exact ⟨31, t.length, by decide, by unfold chrF; simp only; rw [if_pos hfu], hf⟩
    · refine ⟨32, p, by decide, ?_, hf⟩
      unfold chrF
      simp only
      rw [if_neg hfu, if_neg (c := t.getD p 0 = 92) (fun e => by rw [e] at h128; revert h128; decide), if_neg (c := t.getD p 0 < 32) (fun e => by have e2 : (t.getD p 0).toNat < 32 := e; omega), if_pos hv]
  · refine .inl ?_
    have hc := (chr_long (T := t) (p := p) (A := (t.drop p).drop (Lib.decodeL (t.drop p)).2) hne h0 hv (by rw [List.take_append_drop])).1
    have hle := Lib.decodeL_le _ hne
    have hw := Lib.decodeL_width (t.drop p)
    rw [List.length_drop] at hle
    refine ⟨_, _, hc, by omega, by omega, ?_⟩
    rw [Lib.validD_step _ hne, if_neg hv, List.drop_drop]

set_option maxRecDepth 100000 in
set_option maxHeartbeats 4000000 in
theorem rutf_any (t : List UInt8) (w : World) (ht : t.length ≤ 1000000000) :
    Calls Tryz.prog 29 #[.string ⟨t.toArray⟩] w fun e w' => e = .returned (.bool (Lib.validD t)) ∧ Below w.heap.size w w' := by
  obtain ⟨V, hV⟩ : ∃ V, Lib.validD t = V := ⟨_, rfl⟩
  have HV : Hid (Lib.validD (t.drop 0) = V) := hV
  rw [hV]
  clear hV
  go_enter Tryz.func29, Tryz.ntmps29
  go_wp2
  go_loopw [3] (fun s wx => ∃ k : Nat, s = .int .i64 k ∧ k ≤ t.length ∧ Below w.heap.size w wx ∧ Hid (Lib.validD (t.drop k) = V)) (fun s _ => t.length - (intOf s).toNat)
  case atStart => exact ⟨0, rfl, Nat.zero_le _, Below.refl _ _, HV⟩
  case round =>
    obtain ⟨k, rfl, hk, hB, HK⟩ := hrel
    have HB : Hid (Below w.heap.size w wr) := hB
    clear hB HV
    by_cases hlt : k < t.length
    · have q0 : decide ((k : Int) < (t.length : Int)) = true := decide_eq_true (by omega)
      obtain ⟨c, hc⟩ : ∃ c, t.getD k 0 = c := ⟨_, rfl⟩
      have gx : (⟨t.toArray⟩ : ByteArray)[k]'(by show k < t.toArray.size; simpa using hlt) = c := by rw [← hc]; simp [List.getD_eq_getElem?_getD, hlt]; rfl
      by_cases h8 : c.toNat < 128
      · have q1 : decide ((c.toNat : Int) < 128) = true := decide_eq_true (by omega)
        have HK2 : Hid (Lib.validD (t.drop (k + 1)) = V) := by
          have h := HK.out
          rw [List.drop_eq_getElem_cons hlt, Lib.validD_cons _ _ (by rw [← hc] at h8; simpa [List.getD_eq_getElem?_getD, hlt] using h8)] at h
          exact h
        clear hc HK
        go_wp2
        go_roundw
        case rel => exact ⟨k + 1, by go_num, by omega, HB.out, HK2⟩
        case measure => simp [intOf]; omega
      · have q1 : decide ((c.toNat : Int) < 128) = false := decide_eq_false (by omega)
        have CS := sequence_any t k wr hlt (by rw [hc]; omega) ht
        rcases chr_valid hlt (by rw [hc]; omega) with ⟨r, q, e1, hq1, hq2, e2⟩ | ⟨cc, b, hc0, e1, e2⟩
        · have e3 : chF t k = .ok (Lib.encodeRune r) q := by unfold chF; rw [e1]
          rw [e3] at CS
          have HK2 : Hid (Lib.validD (t.drop q) = V) := by show _ = _; rw [← e2]; exact HK.out
          clear e1 e2 e3 hc HK
          generalize Lib.encodeRune r = S at CS
          go_wp2_with fail
          refine CS.mono ?_
          clear CS
          rintro e w2 ⟨⟨v, rfl, hv⟩, hB2⟩
          have hv2 : v = gotV (q : Int) nilV S 0 0 := hv
          subst hv2
          have HB2 : Hid (Below w.heap.size w w2) := HB.out.trans (hB2.mono HB.out.size)
          clear hB2 hv HB
          unfold gotV gotC nilV
          go_wp2
          go_roundw
          case rel => exact ⟨q, rfl, hq2, HB2.out.trans ((alloc_below _ _).mono HB2.out.size), HK2⟩
          case measure => simp [intOf]; omega
        · have e3 : chF t k = .bad cc b := by unfold chF; rw [e1]
          rw [e3] at CS
          have HF : Hid (V = false) := by show _ = _; rw [← HK.out]; exact e2
          have qc : ((cc : Int) != 0) = true := by simpa using hc0
          clear e1 e2 e3 hc HK
          go_wp2_with fail
          refine CS.mono ?_
          clear CS
          rintro e w2 ⟨⟨v, rfl, hv⟩, hB2⟩
          obtain ⟨a, S, hv2⟩ := hv
          subst hv2
          have HB2 : Hid (Below w.heap.size w w2) := HB.out.trans (hB2.mono HB.out.size)
          clear hB2 HB
          unfold gotV gotC nilV
          go_wp2
          go_ret
          rw [HF.out]
          exact ⟨rfl, HB2.out.trans ((alloc_below _ _).mono HB2.out.size)⟩
    · have q0 : decide ((k : Int) < (t.length : Int)) = false := decide_eq_false (by omega)
      have HF : Hid (V = true) := by
        show _ = _
        rw [← HK.out, List.drop_eq_nil_of_le (by omega)]
        rfl
      clear HK
      go_wp2
      go_ret
      rw [HF.out]
      exact ⟨rfl, HB.out⟩

end Go.Proofs.YtdhfjhdlimmjhaaGreatDoor

namespace Go.Proofs.YtdhfjhdlimmjhaaGreatDoor
open Go.RowKit Go.Shelf

set_option maxRecDepth 100000 in
set_option maxHeartbeats 8000000 in
theorem rplain_any (K : Int) (Y T : List UInt8) (b : Bool) (i c : Int) (w : World) (ht : T.length ≤ 1000000000) :
    Calls Tryz.prog 28 #[.agg #[.int .i64 K, .string ⟨Y.toArray⟩, .string ⟨T.toArray⟩, .bool b, .int .i64 i, .int .i64 c]] w fun e w' => e = .returned (.bool (plF ⟨K, Y, T, b, i, c⟩)) ∧ Below w.heap.size w w' := by
  obtain ⟨w0, hw0⟩ : ∃ w0 : World, w.alloc (.cells #[.int .i64 K, .string ⟨Y.toArray⟩, .string ⟨T.toArray⟩, .bool b, .int .i64 i, .int .i64 c] 35) = w0 := ⟨_, rfl⟩
  have HB0 : Hid (Below w.heap.size w w0) := by rw [← hw0]; exact alloc_below _ _
  have HBl : Hid (Bl 35 w0 w.heap.size (nC ⟨K, Y, T, b, i, c⟩)) := by rw [← hw0]; exact alloc_bl _ _ _
  have HW0 : Hid (w.alloc (.cells #[.int .i64 K, .string ⟨Y.toArray⟩, .string ⟨T.toArray⟩, .bool b, .int .i64 i, .int .i64 c] 35) = w0) := hw0
  obtain ⟨R, hR⟩ : ∃ R, plF ⟨K, Y, T, b, i, c⟩ = R := ⟨_, rfl⟩
  have HR : Hid ((if K < 1 ∨ 7 < K ∨ c < 0 ∨ (0 < c ∧ K < 6) then false
    else if K = 4 then (Dec.pcut T).isSome && (decide ((Dec.wholeV (Dec.pcut T)).2 = b) && decide ((Dec.wholeV (Dec.pcut T)).1 = i))
    else if b = true ∨ i ≠ 0 then false
    else if K = 5 then Lib.validD T else decide (T = [])) = R) := hR
  rw [hR]
  have HC1 : Hid (∀ wq : World, Calls Tryz.prog 42 #[.string ⟨T.toArray⟩] wq fun e w' => e = .returned (.tuple #[.int .i64 (Dec.wholeV (Dec.pcut T)).1, .bool (Dec.wholeV (Dec.pcut T)).2]) ∧ Below wq.heap.size wq w') := fun wq => Dec.rwhole_any T wq (by omega)
  have HC2 : Hid (∀ wq : World, Calls Tryz.prog 43 #[.string ⟨T.toArray⟩] wq fun e w' => e = .returned (.bool (Dec.pcut T).isSome) ∧ Below wq.heap.size wq w') := fun wq => Dec.rvalid_any T wq (by omega)
  have HC3 : Hid (∀ wq : World, Calls Tryz.prog 29 #[.string ⟨T.toArray⟩] wq fun e w' => e = .returned (.bool (Lib.validD T)) ∧ Below wq.heap.size wq w') := fun wq => rutf_any T wq ht
  obtain ⟨wh, hwh⟩ : ∃ x, (Dec.wholeV (Dec.pcut T)).2 = x := ⟨_, rfl⟩
  obtain ⟨wi, hwi⟩ : ∃ x, (Dec.wholeV (Dec.pcut T)).1 = x := ⟨_, rfl⟩
  rw [hwh, hwi] at HR HC1
  clear hwh hwi hR hw0
  generalize (Dec.pcut T).isSome = V at *
  generalize Lib.validD T = U at *
  have ck0 : w0.cell? ⟨w.heap.size, 0, none⟩ = some (.int .i64 K) := HBl.out.cell 0 (by simp [nC])
  have ck2 : w0.cell? ⟨w.heap.size, 2, none⟩ = some (.string ⟨T.toArray⟩) := HBl.out.cell 2 (by simp [nC])
  have ck3 : w0.cell? ⟨w.heap.size, 3, none⟩ = some (.bool b) := HBl.out.cell 3 (by simp [nC])
  have ck4 : w0.cell? ⟨w.heap.size, 4, none⟩ = some (.int .i64 i) := HBl.out.cell 4 (by simp [nC])
  have ck5 : w0.cell? ⟨w.heap.size, 5, none⟩ = some (.int .i64 c) := HBl.out.cell 5 (by simp [nC])
  by_cases hbad : K < 1 ∨ 7 < K ∨ c < 0 ∨ (0 < c ∧ K < 6)
  · have HX : Hid (R = false) := by show _ = _; rw [← HR.out, if_pos hbad]
    have hq : decide (K < 1) = true ∨ (decide (K < 1) = false ∧ decide (K > 7) = true) ∨ (decide (K < 1) = false ∧ decide (K > 7) = false ∧ decide (c < 0) = true) ∨ (decide (K < 1) = false ∧ decide (K > 7) = false ∧ decide (c < 0) = false ∧ decide (c > 0) = true ∧ decide (K < 6) = true) := by
      simp only [decide_eq_true_eq, decide_eq_false_iff_not]
      omega
    clear hbad HR HC1 HC2 HC3 HBl
    rcases hq with q1 | ⟨q1, q2⟩ | ⟨q1, q2, q3⟩ | ⟨q1, q2, q3, q4, q5⟩
    · go_enter Tryz.func28, Tryz.ntmps28
      go_upto_region 1 with fail
      rw [HW0.out]
      go_wp2
      go_ret
      rw [HX.out]
      exact ⟨rfl, HB0.out⟩
    · go_enter Tryz.func28, Tryz.ntmps28
      go_upto_region 1 with fail
      rw [HW0.out]
      go_wp2
      go_ret
      rw [HX.out]
      exact ⟨rfl, HB0.out⟩
    · go_enter Tryz.func28, Tryz.ntmps28
      go_upto_region 1 with fail
      rw [HW0.out]
      go_wp2
      go_ret
      rw [HX.out]
      exact ⟨rfl, HB0.out⟩
    · go_enter Tryz.func28, Tryz.ntmps28
      go_upto_region 1 with fail
      rw [HW0.out]
      go_wp2
      go_ret
      rw [HX.out]
      exact ⟨rfl, HB0.out⟩
  · have q1 : decide (K < 1) = false := decide_eq_false (by omega)
    have q2 : decide (K > 7) = false := decide_eq_false (by omega)
    have q3 : decide (c < 0) = false := decide_eq_false (by omega)
    have HR2 : Hid ((if K = 4 then V && (decide (wh = b) && decide (wi = i)) else if b = true ∨ i ≠ 0 then false else if K = 5 then U else decide (T = [])) = R) := by
      have := HR.out
      rwa [if_neg hbad] at this
    have hq : (decide (c > 0) = true ∧ decide (K < 6) = false) ∨ decide (c > 0) = false := by
      simp only [decide_eq_true_eq, decide_eq_false_iff_not]
      omega
    clear HR hbad
    have C1 := HC1.out w0
    clear HC1
    rcases hq with ⟨q4, q5⟩ | q4
    · go_enter Tryz.func28, Tryz.ntmps28
      go_upto_region 1 with fail
      rw [HW0.out]
      go_wp2_with fail
      refine C1.mono ?_
      clear C1 HW0
      rintro e w1 ⟨rfl, hB1⟩
      have HBl1 : Hid (Bl 35 w1 w.heap.size (nC ⟨K, Y, T, b, i, c⟩)) := HBl.out.below hB1 HBl.out.lt
      have HB1 : Hid (Below w.heap.size w w1) := HB0.out.trans (hB1.mono HB0.out.size)
      clear hB1 HBl HB0 ck0 ck2 ck3 ck4 ck5 q1 q2 q3 q4 q5
      have ck0 : w1.cell? ⟨w.heap.size, 0, none⟩ = some (.int .i64 K) := HBl1.out.cell 0 (by simp [nC])
      have ck2 : w1.cell? ⟨w.heap.size, 2, none⟩ = some (.string ⟨T.toArray⟩) := HBl1.out.cell 2 (by simp [nC])
      have ck3 : w1.cell? ⟨w.heap.size, 3, none⟩ = some (.bool b) := HBl1.out.cell 3 (by simp [nC])
      have ck4 : w1.cell? ⟨w.heap.size, 4, none⟩ = some (.int .i64 i) := HBl1.out.cell 4 (by simp [nC])
      have ck5 : w1.cell? ⟨w.heap.size, 5, none⟩ = some (.int .i64 c) := HBl1.out.cell 5 (by simp [nC])
      have C2 := HC2.out w1
      clear HC2
      go_wp2_with fail
      refine C2.mono ?_
      clear C2
      rintro e w2 ⟨rfl, hB2⟩
      have HBl2 : Hid (Bl 35 w2 w.heap.size (nC ⟨K, Y, T, b, i, c⟩)) := HBl1.out.below hB2 HBl1.out.lt
      have HB2 : Hid (Below w.heap.size w w2) := HB1.out.trans (hB2.mono HB1.out.size)
      clear hB2 HBl1 HB1 ck0 ck2 ck3 ck4 ck5
      have ck0 : w2.cell? ⟨w.heap.size, 0, none⟩ = some (.int .i64 K) := HBl2.out.cell 0 (by simp [nC])
      have ck2 : w2.cell? ⟨w.heap.size, 2, none⟩ = some (.string ⟨T.toArray⟩) := HBl2.out.cell 2 (by simp [nC])
      have ck3 : w2.cell? ⟨w.heap.size, 3, none⟩ = some (.bool b) := HBl2.out.cell 3 (by simp [nC])
      have ck4 : w2.cell? ⟨w.heap.size, 4, none⟩ = some (.int .i64 i) := HBl2.out.cell 4 (by simp [nC])
      have ck5 : w2.cell? ⟨w.heap.size, 5, none⟩ = some (.int .i64 c) := HBl2.out.cell 5 (by simp [nC])
      have C3 := HC3.out w2
      clear HC3
      go_wp2_with fail
      refine C3.mono ?_
      clear C3
      rintro e w3 ⟨rfl, hB3⟩
      have HBl3 : Hid (Bl 35 w3 w.heap.size (nC ⟨K, Y, T, b, i, c⟩)) := HBl2.out.below hB3 HBl2.out.lt
      have HB3 : Hid (Below w.heap.size w w3) := HB2.out.trans (hB3.mono HB2.out.size)
      clear hB3 HBl2 HB2 ck0 ck2 ck3 ck4 ck5
      have ck0 : w3.cell? ⟨w.heap.size, 0, none⟩ = some (.int .i64 K) := HBl3.out.cell 0 (by simp [nC])
      have ck2 : w3.cell? ⟨w.heap.size, 2, none⟩ = some (.string ⟨T.toArray⟩) := HBl3.out.cell 2 (by simp [nC])
      have ck3 : w3.cell? ⟨w.heap.size, 3, none⟩ = some (.bool b) := HBl3.out.cell 3 (by simp [nC])
      have ck4 : w3.cell? ⟨w.heap.size, 4, none⟩ = some (.int .i64 i) := HBl3.out.cell 4 (by simp [nC])
      have ck5 : w3.cell? ⟨w.heap.size, 5, none⟩ = some (.int .i64 c) := HBl3.out.cell 5 (by simp [nC])
      by_cases h4 : K = 4
      · have q6 : (K == 4) = true := by simpa using h4
        have HR3 : Hid ((V && (decide (wh = b) && decide (wi = i))) = R) := by
          have := HR2.out
          rwa [if_pos h4] at this
        clear HR2 h4
        cases V
        · have HX : Hid (R = false) := by show _ = _; rw [← HR3.out]; rfl
          clear HR3
          go_wp2
          go_ret
          rw [HX.out]
          exact ⟨rfl, HB3.out⟩
        · by_cases hb : wh = b
          · have q7 : (wh == b) = true := by simpa using hb
            have HX : Hid (R = decide (wi = i)) := by show _ = _; rw [← HR3.out, decide_eq_true hb]; rfl
            clear HR3 hb
            by_cases hi : wi = i
            · have q8 : (wi == i) = true := by simpa using hi
              have HX2 : Hid (R = true) := by show _ = _; rw [HX.out]; exact decide_eq_true hi
              clear HX hi
              go_wp2
              go_ret
              rw [HX2.out]
              exact ⟨rfl, HB3.out⟩
            · have q8 : (wi == i) = false := by simpa using hi
              have HX2 : Hid (R = false) := by show _ = _; rw [HX.out]; exact decide_eq_false hi
              clear HX hi
              go_wp2
              go_ret
              rw [HX2.out]
              exact ⟨rfl, HB3.out⟩
          · have q7 : (wh == b) = false := by simpa using hb
            have HX : Hid (R = false) := by show _ = _; rw [← HR3.out, decide_eq_false hb]; rfl
            clear HR3 hb
            go_wp2
            go_ret
            rw [HX.out]
            exact ⟨rfl, HB3.out⟩
      · have q6 : (K == 4) = false := by simpa using h4
        have HR3 : Hid ((if b = true ∨ i ≠ 0 then false else if K = 5 then U else decide (T = [])) = R) := by
          have := HR2.out
          rwa [if_neg h4] at this
        clear HR2 h4
        cases b
        · by_cases hi : i = 0
          · have q7 : (i != 0) = false := by simpa using hi
            have HR4 : Hid ((if K = 5 then U else decide (T = [])) = R) := by
              have := HR3.out
              rwa [if_neg (by simp [hi])] at this
            clear HR3 hi
            by_cases h5 : K = 5
            · have q8 : (K == 5) = true := by simpa using h5
              have HX : Hid (R = U) := by show _ = _; rw [← HR4.out, if_pos h5]
              clear HR4 h5
              go_wp2
              go_ret
              rw [HX.out]
              exact ⟨rfl, HB3.out⟩
            · have q8 : (K == 5) = false := by simpa using h5
              have HX : Hid (R = decide (T = [])) := by show _ = _; rw [← HR4.out, if_neg h5]
              clear HR4 h5
              by_cases hT : T = []
              · subst hT
                have HX2 : Hid (R = true) := HX.out
                clear HX
                go_wp2
                go_ret
                rw [HX2.out]
                exact ⟨rfl, HB3.out⟩
              · have q9 : (T == []) = false := by simpa using hT
                have HX2 : Hid (R = false) := by show _ = _; rw [HX.out]; exact decide_eq_false hT
                clear HX hT
                go_wp2
                go_ret
                rw [HX2.out]
                exact ⟨rfl, HB3.out⟩
          · have q7 : (i != 0) = true := by simpa using hi
            have HX : Hid (R = false) := by show _ = _; rw [← HR3.out]; exact if_pos (.inr hi)
            clear HR3 hi
            go_wp2
            go_ret
            rw [HX.out]
            exact ⟨rfl, HB3.out⟩
        · have HX : Hid (R = false) := by show _ = _; rw [← HR3.out]; exact if_pos (.inl rfl)
          clear HR3
          go_wp2
          go_ret
          rw [HX.out]
          exact ⟨rfl, HB3.out⟩
    · go_enter Tryz.func28, Tryz.ntmps28
      go_upto_region 1 with fail
      rw [HW0.out]
      go_wp2_with fail
      refine C1.mono ?_
      clear C1 HW0
      rintro e w1 ⟨rfl, hB1⟩
      have HBl1 : Hid (Bl 35 w1 w.heap.size (nC ⟨K, Y, T, b, i, c⟩)) := HBl.out.below hB1 HBl.out.lt
      have HB1 : Hid (Below w.heap.size w w1) := HB0.out.trans (hB1.mono HB0.out.size)
      clear hB1 HBl HB0 ck0 ck2 ck3 ck4 ck5 q1 q2 q3 q4
      have ck0 : w1.cell? ⟨w.heap.size, 0, none⟩ = some (.int .i64 K) := HBl1.out.cell 0 (by simp [nC])
      have ck2 : w1.cell? ⟨w.heap.size, 2, none⟩ = some (.string ⟨T.toArray⟩) := HBl1.out.cell 2 (by simp [nC])
      have ck3 : w1.cell? ⟨w.heap.size, 3, none⟩ = some (.bool b) := HBl1.out.cell 3 (by simp [nC])
      have ck4 : w1.cell? ⟨w.heap.size, 4, none⟩ = some (.int .i64 i) := HBl1.out.cell 4 (by simp [nC])
      have ck5 : w1.cell? ⟨w.heap.size, 5, none⟩ = some (.int .i64 c) := HBl1.out.cell 5 (by simp [nC])
      have C2 := HC2.out w1
      clear HC2
      go_wp2_with fail
      refine C2.mono ?_
      clear C2
      rintro e w2 ⟨rfl, hB2⟩
      have HBl2 : Hid (Bl 35 w2 w.heap.size (nC ⟨K, Y, T, b, i, c⟩)) := HBl1.out.below hB2 HBl1.out.lt
      have HB2 : Hid (Below w.heap.size w w2) := HB1.out.trans (hB2.mono HB1.out.size)
      clear hB2 HBl1 HB1 ck0 ck2 ck3 ck4 ck5
      have ck0 : w2.cell? ⟨w.heap.size, 0, none⟩ = some (.int .i64 K) := HBl2.out.cell 0 (by simp [nC])
      have ck2 : w2.cell? ⟨w.heap.size, 2, none⟩ = some (.string ⟨T.toArray⟩) := HBl2.out.cell 2 (by simp [nC])
      have ck3 : w2.cell? ⟨w.heap.size, 3, none⟩ = some (.bool b) := HBl2.out.cell 3 (by simp [nC])
      have ck4 : w2.cell? ⟨w.heap.size, 4, none⟩ = some (.int .i64 i) := HBl2.out.cell 4 (by simp [nC])
      have ck5 : w2.cell? ⟨w.heap.size, 5, none⟩ = some (.int .i64 c) := HBl2.out.cell 5 (by simp [nC])
      have C3 := HC3.out w2
      clear HC3
      go_wp2_with fail
      refine C3.mono ?_
      clear C3
      rintro e w3 ⟨rfl, hB3⟩
      have HBl3 : Hid (Bl 35 w3 w.heap.size (nC ⟨K, Y, T, b, i, c⟩)) := HBl2.out.below hB3 HBl2.out.lt
      have HB3 : Hid (Below w.heap.size w w3) := HB2.out.trans (hB3.mono HB2.out.size)
      clear hB3 HBl2 HB2 ck0 ck2 ck3 ck4 ck5
      have ck0 : w3.cell? ⟨w.heap.size, 0, none⟩ = some (.int .i64 K) := HBl3.out.cell 0 (by simp [nC])
      have ck2 : w3.cell? ⟨w.heap.size, 2, none⟩ = some (.string ⟨T.toArray⟩) := HBl3.out.cell 2 (by simp [nC])
      have ck3 : w3.cell? ⟨w.heap.size, 3, none⟩ = some (.bool b) := HBl3.out.cell 3 (by simp [nC])
      have ck4 : w3.cell? ⟨w.heap.size, 4, none⟩ = some (.int .i64 i) := HBl3.out.cell 4 (by simp [nC])
      have ck5 : w3.cell? ⟨w.heap.size, 5, none⟩ = some (.int .i64 c) := HBl3.out.cell 5 (by simp [nC])
      by_cases h4 : K = 4
      · have q6 : (K == 4) = true := by simpa using h4
        have HR3 : Hid ((V && (decide (wh = b) && decide (wi = i))) = R) := by
          have := HR2.out
          rwa [if_pos h4] at this
        clear HR2 h4
        cases V
        · have HX : Hid (R = false) := by show _ = _; rw [← HR3.out]; rfl
          clear HR3
          go_wp2
          go_ret
          rw [HX.out]
          exact ⟨rfl, HB3.out⟩
        · by_cases hb : wh = b
          · have q7 : (wh == b) = true := by simpa using hb
            have HX : Hid (R = decide (wi = i)) := by show _ = _; rw [← HR3.out, decide_eq_true hb]; rfl
            clear HR3 hb
            by_cases hi : wi = i
            · have q8 : (wi == i) = true := by simpa using hi
              have HX2 : Hid (R = true) := by show _ = _; rw [HX.out]; exact decide_eq_true hi
              clear HX hi
              go_wp2
              go_ret
              rw [HX2.out]
              exact ⟨rfl, HB3.out⟩
            · have q8 : (wi == i) = false := by simpa using hi
              have HX2 : Hid (R = false) := by show _ = _; rw [HX.out]; exact decide_eq_false hi
              clear HX hi
              go_wp2
              go_ret
              rw [HX2.out]
              exact ⟨rfl, HB3.out⟩
          · have q7 : (wh == b) = false := by simpa using hb
            have HX : Hid (R = false) := by show _ = _; rw [← HR3.out, decide_eq_false hb]; rfl
            clear HR3 hb
            go_wp2
            go_ret
            rw [HX.out]
            exact ⟨rfl, HB3.out⟩
      · have q6 : (K == 4) = false := by simpa using h4
        have HR3 : Hid ((if b = true ∨ i ≠ 0 then false else if K = 5 then U else decide (T = [])) = R) := by
          have := HR2.out
          rwa [if_neg h4] at this
        clear HR2 h4
        cases b
        · by_cases hi : i = 0
          · have q7 : (i != 0) = false := by simpa using hi
            have HR4 : Hid ((if K = 5 then U else decide (T = [])) = R) := by
              have := HR3.out
              rwa [if_neg (by simp [hi])] at this
            clear HR3 hi
            by_cases h5 : K = 5
            · have q8 : (K == 5) = true := by simpa using h5
              have HX : Hid (R = U) := by show _ = _; rw [← HR4.out, if_pos h5]
              clear HR4 h5
              go_wp2
              go_ret
              rw [HX.out]
              exact ⟨rfl, HB3.out⟩
            · have q8 : (K == 5) = false := by simpa using h5
              have HX : Hid (R = decide (T = [])) := by show _ = _; rw [← HR4.out, if_neg h5]
              clear HR4 h5
              by_cases hT : T = []
              · subst hT
                have HX2 : Hid (R = true) := HX.out
                clear HX
                go_wp2
                go_ret
                rw [HX2.out]
                exact ⟨rfl, HB3.out⟩
              · have q9 : (T == []) = false := by simpa using hT
                have HX2 : Hid (R = false) := by show _ = _; rw [HX.out]; exact decide_eq_false hT
                clear HX hT
                go_wp2
                go_ret
                rw [HX2.out]
                exact ⟨rfl, HB3.out⟩
          · have q7 : (i != 0) = true := by simpa using hi
            have HX : Hid (R = false) := by show _ = _; rw [← HR3.out]; exact if_pos (.inr hi)
            clear HR3 hi
            go_wp2
            go_ret
            rw [HX.out]
            exact ⟨rfl, HB3.out⟩
        · have HX : Hid (R = false) := by show _ = _; rw [← HR3.out]; exact if_pos (.inl rfl)
          clear HR3
          go_wp2
          go_ret
          rw [HX.out]
          exact ⟨rfl, HB3.out⟩

end Go.Proofs.YtdhfjhdlimmjhaaGreatDoor
