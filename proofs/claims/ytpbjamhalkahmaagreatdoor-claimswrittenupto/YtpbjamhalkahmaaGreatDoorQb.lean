import Derived.Test.YtpbjamhalkahmaaGreatDoorCZ
import Derived.Test.YtpbjamhalkahmaaGreatDoorYZ
namespace Go.Proofs.YtpbjamhalkahmaaGreatDoor
open Go.RowKit

theorem ch_le {v : List Nd} : ∀ (L : List Nat) (i j : Nat), Ch v i L j → (∀ k ∈ L, k < v.length) → ∀ k ∈ L, i ≤ k
  | [], _, _, _, _ => fun k hk => by cases hk
  | a :: r, i, j, h, hl => fun k hk => by
    obtain ⟨rfl, h2⟩ := h
    rcases List.mem_cons.1 hk with rfl | hk
    · exact Nat.le_refl _
    · have h3 := ch_le r _ j h2 (fun x hx => hl x (List.mem_cons_of_mem _ hx)) k hk
      have h4 : a ≤ bhN v a := by unfold bhN; omega
      omega
theorem ch_congr {v x : List Nd} : ∀ (L : List Nat) (i j : Nat), (∀ k ∈ L, bhN x k = bhN v k) → Ch v i L j → Ch x i L j
  | [], _, _, _, h => h
  | a :: r, i, j, hb, h => by
    obtain ⟨rfl, h2⟩ := h
    refine ⟨rfl, ?_⟩
    rw [hb a (by simp)]
    exact ch_congr r _ j (fun k hk => hb k (by simp [hk])) h2
theorem ch_snoc {x : List Nd} : ∀ (L : List Nat) (i j : Nat), Ch x i L j → Ch x i (L ++ [j]) (bhN x j)
  | [], i, j, h => by
    have e : i = j := h
    subst e
    exact ⟨rfl, rfl⟩
  | a :: r, i, j, h => by
    obtain ⟨rfl, h2⟩ := h
    exact ⟨rfl, ch_snoc r _ j h2⟩
theorem kidsL_ch {x : List Nd} : ∀ (L : List Nat) (i j f : Nat), Ch x i L j → (∀ k ∈ L, k < x.length) → L.length ≤ f → kidsL x f i (L.length : Int) = L
  | [], i, j, f, _, _, _ => by
    cases f with
    | zero => rfl
    | succ f =>
      unfold kidsL
      rw [if_neg (by simp)]
  | a :: r, i, j, f, h, hl, hf => by
    obtain ⟨rfl, h2⟩ := h
    cases f with
    | zero => simp at hf
    | succ f =>
      unfold kidsL
      rw [if_pos ⟨by simp only [List.length_cons]; omega, hl a (by simp)⟩, show ((a :: r).length : Int) - 1 = (r.length : Int) by simp only [List.length_cons]; omega, kidsL_ch r _ j f h2 (fun k hk => hl k (by simp [hk])) (by simpa using hf)]

/-- A value with one member more. -/
def moreV (v : List Nd) (name more : List UInt8) : List Nd := { v.getD 0 (nd0 0) with kids := (v.getD 0 (nd0 0)).kids + 1 } :: (v.drop 1 ++ [⟨5, name, more, false, 0, 0⟩])
theorem more_len {v : List Nd} (h0 : 0 < v.length) (name more : List UInt8) : (moreV v name more).length = v.length + 1 := by
  unfold moreV
  simp
  omega
theorem more_zero (v : List Nd) (name more : List UInt8) : (moreV v name more).getD 0 (nd0 0) = { v.getD 0 (nd0 0) with kids := (v.getD 0 (nd0 0)).kids + 1 } := rfl
theorem more_at {v : List Nd} {i : Nat} (h1 : 1 ≤ i) (h2 : i < v.length) (name more : List UInt8) : (moreV v name more).getD i (nd0 0) = v.getD i (nd0 0) := by
  obtain ⟨k, rfl⟩ : ∃ k, i = k + 1 := ⟨i - 1, by omega⟩
  unfold moreV
  rw [List.getD_eq_getElem?_getD, List.getElem?_cons_succ, List.getElem?_append_left (by simp; omega), List.getElem?_drop, List.getD_eq_getElem?_getD, Nat.add_comm 1 k]
theorem more_last {v : List Nd} (h0 : 0 < v.length) (name more : List UInt8) : (moreV v name more).getD v.length (nd0 0) = ⟨5, name, more, false, 0, 0⟩ := by
  obtain ⟨k, hk⟩ : ∃ k, v.length = k + 1 := ⟨v.length - 1, by omega⟩
  unfold moreV
  rw [hk, List.getD_eq_getElem?_getD, List.getElem?_cons_succ, List.getElem?_append_right (by simp; omega)]
  simp [hk]
theorem more_bh {v : List Nd} (h : Sq 0 [[]] v) (hl : v.length ≤ 262144) (name more : List UInt8) {i : Nat} (h1 : 1 ≤ i) (h2 : i < v.length) : bhN (moreV v name more) i = bhN v i := by
  obtain ⟨d, n, ks, r, pre, post, hd, hv, hp, hw, hr, hn, hk⟩ := h.at i h2
  have hlen : v.length = pre.length + (1 + r.length + post.length) := by rw [hv]; simp; omega
  have e1 : bhN v pre.length = pre.length + (n :: r).length := Sq.behind (Sq.one hw hr hn hk) (pre := pre) (post := post) (v := v) hv (by simp only [List.length_cons]; omega)
  cases pre with
  | nil => simp at hp; omega
  | cons p0 pr =>
    have hx : moreV v name more = ({ p0 with kids := p0.kids + 1 } :: pr) ++ ((n :: r) ++ (post ++ [⟨5, name, more, false, 0, 0⟩])) := by
      unfold moreV
      rw [hv]
      simp
    have e2 : bhN (moreV v name more) ({ p0 with kids := p0.kids + 1 } :: pr).length = ({ p0 with kids := p0.kids + 1 } :: pr).length + (n :: r).length := Sq.behind (Sq.one hw hr hn hk) (post := post ++ [⟨5, name, more, false, 0, 0⟩]) hx (by simp only [List.length_cons]; omega)
    rw [← hp]
    simp only [List.length_cons] at e1 e2 ⊢
    omega
theorem kids_one {v : List Nd} (h : Sq 0 [[]] v) (hl : v.length ≤ 262144) {i : Nat} (hi : i < v.length) : ∀ k ∈ kidsF v (i : Int), i + 1 ≤ k := ch_le _ _ _ (at_of h hl hi).ch kidsF_lt
theorem more_kids {v : List Nd} (h : Sq 0 [[]] v) (hl : v.length ≤ 262144) (name more : List UInt8) {i : Nat} (h1 : 1 ≤ i) (h2 : i < v.length) : kidsF (moreV v name more) (i : Int) = kidsF v (i : Int) := by
  have h0 : 0 < v.length := by omega
  have hA := at_of h hl h2
  have hc := ch_congr (x := moreV v name more) (kidsF v (i : Int)) _ _ (fun k hk => more_bh h hl name more (by have := kids_one h hl h2 k hk; omega) (kidsF_lt k hk)) hA.ch
  conv => lhs; unfold kidsF
  rw [if_pos ⟨by omega, by rw [more_len h0]; omega⟩, Int.toNat_natCast, more_at h1 h2, ← hA.ln]
  refine kidsL_ch _ _ _ _ hc (fun k hk => by rw [more_len h0]; have := kidsF_lt k hk; omega) ?_
  have := @kids_len v (i : Int)
  rw [more_len h0]
  omega
theorem more_kids0 {v : List Nd} (h : Sq 0 [[]] v) (hl : v.length ≤ 262144) (name more : List UInt8) : kidsF (moreV v name more) 0 = kidsF v 0 ++ [v.length] := by
  have hall := all_of h hl
  have h0 := hall.1
  have hA := at_of h hl h0
  have hch := hA.ch
  rw [Int.natCast_zero, hall.2] at hch
  have hc := ch_snoc _ _ _ (ch_congr (x := moreV v name more) (kidsF v 0) _ _ (fun k hk => more_bh h hl name more (by have := kids_one h hl h0 k (by rw [Int.natCast_zero]; exact hk); omega) (kidsF_lt k hk)) hch)
  have hln := hA.ln
  rw [Int.natCast_zero] at hln
  conv => lhs; unfold kidsF
  rw [if_pos ⟨by omega, by rw [more_len h0]; omega⟩, show (0 : Int).toNat = 0 from rfl, more_zero]
  have e : (v.getD 0 (nd0 0)).kids + 1 = ((kidsF v 0 ++ [v.length]).length : Int) := by rw [← hln]; simp
  show kidsL _ _ _ ((v.getD 0 (nd0 0)).kids + 1) = _
  rw [e]
  refine kidsL_ch _ _ _ _ hc (fun k hk => ?_) ?_
  · rw [more_len h0]
    rcases List.mem_append.1 hk with hk | hk
    · have := kidsF_lt k hk; omega
    · have := List.mem_singleton.1 hk; omega
  · have := @kids_len v 0
    rw [more_len h0, List.length_append, List.length_singleton]
    omega
theorem memL_more {v : List Nd} (name more key : List UInt8) (hne : key ≠ name) (h0 : 0 < v.length) : ∀ L : List Nat, (∀ k ∈ L, 1 ≤ k ∧ k < v.length) → memL (moreV v name more) key (L ++ [v.length]) = memL v key L
  | [], _ => by
    show (if ((moreV v name more).getD v.length (nd0 0)).key = key then (v.length : Int) else -1) = -1
    rw [more_last h0]
    exact if_neg (fun e => hne e.symm)
  | k :: r, h => by
    have hk := h k (by simp)
    rw [List.cons_append]
    unfold memL
    rw [more_at hk.1 hk.2, memL_more name more key hne h0 r (fun x hx => h x (by simp [hx]))]
theorem more_mem {v : List Nd} (h : Sq 0 [[]] v) (hl : v.length ≤ 262144) (h7 : (v.getD 0 (nd0 0)).kind = 7) (name more key : List UInt8) (hne : key ≠ name) : memF (moreV v name more) 0 key = memF v 0 key := by
  have h0 := (all_of h hl).1
  unfold memF
  rw [if_pos ⟨by omega, by rw [more_len h0]; omega, h7⟩, if_pos ⟨by omega, by omega, h7⟩, more_kids0 h hl, memL_more name more key hne h0]
  intro k hk
  exact ⟨by have := kids_one h hl h0 k (by rw [Int.natCast_zero]; exact hk); omega, kidsF_lt k hk⟩
/-- None of the seven names. -/
def strange (k : List UInt8) : Prop := k ≠ kIss ∧ k ≠ kSub ∧ k ≠ kAud ∧ k ≠ kJti ∧ k ≠ kExp ∧ k ≠ kNbf ∧ k ≠ kIat
theorem mem_pl {v : List Nd} (h : Sq 0 [[]] v) (hl : v.length ≤ 262144) (key : List UInt8) : memF v 0 key < 0 ∨ ∃ i : Nat, memF v 0 key = (i : Int) ∧ 1 ≤ i ∧ i < v.length := by
  rcases mem_in v key with e | ⟨k, hk, e, _⟩
  · exact .inl (by rw [e]; decide)
  · exact .inr ⟨k, e, by have := kids_one h hl (all_of h hl).1 k (by rw [Int.natCast_zero]; exact hk); omega, kidsF_lt k hk⟩
theorem more_tx {v : List Nd} (h : Sq 0 [[]] v) (hl : v.length ≤ 262144) (h7 : (v.getD 0 (nd0 0)).kind = 7) (name more key : List UInt8) (hne : key ≠ name) : txF (moreV v name more) key = txF v key ∧ moF (moreV v name more) key = moF v key ∧ tsF (moreV v name more) key = tsF v key := by
  unfold txF moF tsF
  rw [more_mem h hl h7 name more key hne]
  rcases mem_pl h hl key with hm | ⟨i, e, h1, h2⟩
  · rw [if_pos hm, if_pos hm, if_pos hm, if_pos hm, if_pos hm, if_pos hm]
    exact ⟨rfl, rfl, rfl⟩
  · rw [e, Int.toNat_natCast, more_at h1 h2, more_kids h hl name more h1 h2]
    refine ⟨rfl, rfl, ?_⟩
    have : (kidsF v (i : Int)).map (fun i => ((moreV v name more).getD i (nd0 0)).text) = (kidsF v (i : Int)).map (fun i => (v.getD i (nd0 0)).text) := by
      refine List.map_congr_left fun k hk => ?_
      have := kids_one h hl h2 k hk
      rw [more_at (by omega) (kidsF_lt k hk)]
    rw [this]
theorem more_fit {v : List Nd} (h : Sq 0 [[]] v) (hl : v.length ≤ 262144) (name more : List UInt8) (hs : strange name) : (kidsF (moreV v name more) 0).all (fitF (moreV v name more)) = (kidsF v 0).all (fitF v) := by
  have h0 := (all_of h hl).1
  rw [more_kids0 h hl, List.all_append]
  have e1 : (kidsF v 0).all (fitF (moreV v name more)) = (kidsF v 0).all (fitF v) := by
    have this' : ∀ k ∈ kidsF v 0, fitF (moreV v name more) k = fitF v k := fun k hk => by
      have h1 := kids_one h hl h0 k (by rw [Int.natCast_zero]; exact hk)
      have h2 := kidsF_lt k hk
      have ha : allT (moreV v name more) (kidsF v (k : Int)) = allT v (kidsF v (k : Int)) := by
        unfold allT
        rw [Bool.eq_iff_iff, List.all_eq_true, List.all_eq_true]
        constructor <;> intro hh y hy <;> have := hh y hy <;> have h3 := kids_one h hl h2 y hy <;> (rw [more_at (by omega) (kidsF_lt y hy)] at *; exact this)
      unfold fitF
      rw [more_at (by omega) h2, more_kids h hl name more (by omega) h2, ha]
    rw [Bool.eq_iff_iff, List.all_eq_true, List.all_eq_true]
    constructor <;> intro hh y hy <;> have := hh y hy
    · rwa [this' y hy] at this
    · rwa [← this' y hy] at this
  rw [e1]
  have e2 : fitF (moreV v name more) v.length = true := by
    unfold fitF
    rw [more_last h0]
    obtain ⟨a1, a2, a3, a4, a5, a6, a7⟩ := hs
    show (if name = kAud then _ else _) = true
    rw [if_neg a3, if_neg (by rintro (e | e | e); exact a1 e; exact a2 e; exact a4 e), if_neg (by rintro (e | e | e); exact a5 e; exact a6 e; exact a7 e)]
  simp [e2]
/-- What is said by the longer value. -/
theorem more_said {v : List Nd} (h : Sq 0 [[]] v) (hl : v.length ≤ 262144) (h7 : (v.getD 0 (nd0 0)).kind = 7) (name more : List UInt8) (hs : strange name) : saidF (moreV v name more) = { saidF v with val := moreV v name more } := by
  obtain ⟨a1, a2, a3, a4, a5, a6, a7⟩ := hs
  have t1 := more_tx h hl h7 name more kIss (fun e => a1 e.symm)
  have t2 := more_tx h hl h7 name more kSub (fun e => a2 e.symm)
  have t3 := more_tx h hl h7 name more kAud (fun e => a3 e.symm)
  have t4 := more_tx h hl h7 name more kJti (fun e => a4 e.symm)
  have t5 := more_tx h hl h7 name more kExp (fun e => a5 e.symm)
  have t6 := more_tx h hl h7 name more kNbf (fun e => a6 e.symm)
  have t7 := more_tx h hl h7 name more kIat (fun e => a7 e.symm)
  unfold saidF
  rw [t1.1, t2.1, t3.2.2, t4.1, t5.2.1, t6.2.1, t7.2.1]
/-- Parse of what is printed of a value. -/
theorem cparse_print {x : List Nd} (hs : shapedF x = true) (hl : (prF x 33 0).1.length ≤ 262144) : parseF (prF x 33 0).1 = (x, 0, 0) := print_back (shaped_sq hs) hl

end Go.Proofs.YtpbjamhalkahmaaGreatDoor
