import Derived.Test.YtjehkpndchadbaaGreatDoorJZ
import Derived.Test.YtjehkpndchadbaaGreatDoorRW
import Derived.Lib.ValidLaws
namespace Go.Proofs.YtjehkpndchadbaaGreatDoor
open Go.RowKit

theorem u8n (x : Int) (h : x < 256) : (x.toNat.toUInt8).toNat = x.toNat := by
  show x.toNat % 256 = _
  omega

theorem dec_enc (r : Int) (m : List UInt8) : (Lib.decodeL (Lib.encodeRune r ++ m)).2 = (Lib.encodeRune r).length ∧ ¬ ((Lib.decodeL (Lib.encodeRune r ++ m)).1 = 65533 ∧ (Lib.decodeL (Lib.encodeRune r ++ m)).2 = 1) := by
  rw [Lib.decodeL_N]
  unfold Lib.encodeRune
  have hall : (0 ≤ r ∧ r ≤ 127) ∨ (128 ≤ r ∧ r ≤ 2047) ∨ ((2048 ≤ r ∧ r < 55296) ∨ (57343 < r ∧ r ≤ 65535)) ∨ (65536 ≤ r ∧ r ≤ 1114111) ∨ (r < 0 ∨ (55296 ≤ r ∧ r ≤ 57343) ∨ 1114111 < r) := by omega
  rcases hall with ⟨h0, h1⟩ | ⟨h0, h1⟩ | h | ⟨h0, h1⟩ | h
  · rw [Lib.encodeRuneZ_one h0 h1]
    simp only [List.map_cons, List.map_nil, List.cons_append, List.nil_append, List.length_cons, List.getD_cons_zero, List.length_nil]
    rw [u8n _ (by omega)]
    unfold Lib.decodeN
    rw [if_pos (by omega)]
    exact ⟨rfl, fun h => by have h2 : r.toNat = 65533 := h.1; omega⟩
  · rw [Lib.encodeRuneZ_two h0 h1]
    simp only [List.map_cons, List.map_nil, List.cons_append, List.nil_append, List.length_cons, List.getD_cons_zero, List.getD_cons_succ, List.length_nil]
    rw [u8n _ (by omega), u8n _ (by omega)]
    unfold Lib.decodeN
    rw [if_neg (by omega), if_pos (by omega), if_pos (by omega)]
    exact ⟨rfl, fun h => by have h2 := h.2; simp at h2⟩
  · rw [Lib.encodeRuneZ_three h]
    simp only [List.map_cons, List.map_nil, List.cons_append, List.nil_append, List.length_cons, List.getD_cons_zero, List.getD_cons_succ, List.length_nil]
    rw [u8n _ (by omega), u8n _ (by omega), u8n _ (by omega)]
    unfold Lib.decodeN
    rw [if_neg (by omega), if_neg (by omega), if_pos (by omega), if_pos (by omega)]
    exact ⟨rfl, fun h => by have h2 := h.2; simp at h2⟩
  · rw [Lib.encodeRuneZ_four h0 h1]
    simp only [List.map_cons, List.map_nil, List.cons_append, List.nil_append, List.length_cons, List.getD_cons_zero, List.getD_cons_succ, List.length_nil]
    rw [u8n _ (by omega), u8n _ (by omega), u8n _ (by omega), u8n _ (by omega)]
    unfold Lib.decodeN
    rw [if_neg (by omega), if_neg (by omega), if_neg (by omega), if_pos (by omega), if_pos (by omega)]
    exact ⟨rfl, fun h => by have h2 := h.2; simp at h2⟩
  · rw [Lib.encodeRuneZ_bad h]
    simp only [List.map_cons, List.map_nil, List.cons_append, List.nil_append, List.length_cons, List.getD_cons_zero, List.getD_cons_succ, List.length_nil]
    rw [u8n _ (by omega), u8n _ (by omega), u8n _ (by omega)]
    unfold Lib.decodeN
    rw [if_neg (by decide), if_neg (by omega), if_pos (by omega), if_pos (by decide)]
    exact ⟨rfl, fun h => by have h2 := h.2; simp at h2⟩

theorem enc_ne (r : Int) : Lib.encodeRune r ≠ [] := by
  have := Lib.encodeRuneZ_length r
  unfold Lib.encodeRune
  intro h
  have h2 := congrArg List.length h
  simp at h2
  rw [h2] at this
  simp at this

theorem valid_enc (r : Int) (m : List UInt8) : Lib.validD (Lib.encodeRune r ++ m) = Lib.validD m := by
  have h := dec_enc r m
  rw [Lib.validD_step _ (by simp [enc_ne r]), if_neg h.2, h.1]
  simp

theorem valid_app {a : List UInt8} (ha : Lib.validD a = true) (b : List UInt8) (hb : Lib.validD b = true) : ∀ n, a.length ≤ n → Lib.validD (a ++ b) = true := by
  intro n
  induction n generalizing a with
  | zero =>
    intro hn
    have : a = [] := List.eq_nil_of_length_eq_zero (by omega)
    rw [this]; exact hb
  | succ n ih =>
    intro hn
    by_cases he : a = []
    · rw [he]; exact hb
    · rw [Lib.validD_step a he] at ha
      split at ha
      · cases ha
      · rename_i hv
        have h1 := Lib.encode_decode a he hv
        have hle := Lib.decodeL_le a he
        have hw := Lib.decodeL_width a
        have e1 : a = Lib.encodeRune ((Lib.decodeL a).1 : Int) ++ a.drop (Lib.decodeL a).2 := by rw [h1, List.take_append_drop]
        rw [e1, List.append_assoc, valid_enc]
        refine ih ha ?_
        rw [List.length_drop]
        omega

theorem quo_valid {t : List UInt8} : ∀ (n p : Nat) (acc l : List UInt8) (q : Nat), Lib.validD acc = true → quoF t n p acc = .ok l q → Lib.validD l = true
  | 0, p, acc, l, q, h, e => by unfold quoF at e; cases e
  | n + 1, p, acc, l, q, h, e => by
    unfold quoF at e
    split at e
    · cases e; exact h
    · split at e
      · cases e
      · rename_i r q1 e1
        refine quo_valid n q1 _ l q (valid_app h _ ?_ _ (Nat.le_refl _)) e
        have := valid_enc r []
        rw [List.append_nil] at this
        rw [this]; rfl

theorem qv : QV := fun _ n p l q e => quo_valid n p [] l q rfl e

end Go.Proofs.YtjehkpndchadbaaGreatDoor

namespace Go.Proofs.YtjehkpndchadbaaGreatDoor
open Go.RowKit
open Dec (isD nd digs rst cutF cutP cutL badW pcut pcut1 pcut2 pcut3 pcut4 isE isS skS)

theorem digs_app (g r : List UInt8) (hg : ∀ c ∈ g, isD c = true) (hr : ∀ c t, r = c :: t → isD c = false) : digs (g ++ r) = g ∧ rst (g ++ r) = r := by
  have hn : nd (g ++ r) = g.length := by
    unfold nd
    rw [List.findIdx_append]
    have h1 : List.findIdx (fun c => !isD c) g = g.length := by
      rw [List.findIdx_eq_length]
      intro x hx
      rw [hg x hx]; rfl
    rw [h1, if_neg (Nat.lt_irrefl _)]
    cases r with
    | nil => simp
    | cons c t =>
      rw [List.findIdx_cons, hr c t rfl]
      simp
  unfold digs rst
  rw [hn]
  simp

theorem sgl_app (t : List UInt8) {p k q : Nat} (h1 : p ≤ k) (h2 : k ≤ q) : sgl t p q = sgl t p k ++ sgl t k q := by
  unfold sgl
  rw [show q - p = (k - p) + (q - k) by omega, List.take_add, List.drop_drop, show p + (k - p) = k by omega]
theorem sgl_nil (t : List UInt8) (p : Nat) : sgl t p p = [] := by unfold sgl; simp
theorem sgl_tk {t set : List UInt8} {p : Nat} (h : tk t set p = true) : sgl t p (p + 1) = [t.getD p 0] ∧ set.contains (t.getD p 0) = true := by
  have hl := tk_lt h
  refine ⟨?_, ?_⟩
  · unfold sgl
    rw [drop_at hl]
    simp
  · unfold tk at h
    simp only [Bool.and_eq_true] at h
    exact h.2

theorem dig_is {c : UInt8} (h : digitsS.contains c = true) : isD c = true := by
  simp [digitsS] at h
  rcases h with rfl | rfl | rfl | rfl | rfl | rfl | rfl | rfl | rfl | rfl <;> decide

theorem spn_all (set : List UInt8) : ∀ l : List UInt8, ∀ c ∈ l.take (spn set l), set.contains c = true
  | [] => by simp [spn]
  | x :: r => by
    unfold spn
    split
    · rename_i h
      intro c hc
      rw [List.take_succ_cons] at hc
      rcases List.mem_cons.1 hc with rfl | hc
      · exact h
      · exact spn_all set r c hc
    · simp
theorem sgl_digs (t : List UInt8) (p : Nat) : ∀ c ∈ sgl t p (skp t digitsS p), isD c = true := by
  intro c hc
  unfold sgl skp at hc
  rw [show p + spn digitsS (t.drop p) - p = spn digitsS (t.drop p) by omega] at hc
  exact dig_is (spn_all _ _ c hc)
theorem sgl_dne {t : List UInt8} {p : Nat} (h : tk t digitsS p = true) : sgl t p (skp t digitsS p) = t.getD p 0 :: sgl t (p + 1) (skp t digitsS p) := by
  have := skp_dg h
  rw [sgl_app t (show p ≤ p + 1 by omega) (show p + 1 ≤ _ by omega), (sgl_tk h).1]
  rfl

/-- What may stand at a number's end. -/
def PE (x : List UInt8) : Prop := (cutP x).2.2.1 = [] ∧ (cutP x).2.2.2 = true ∧ ∀ c r, x = c :: r → isD c = false ∧ c ≠ 46
def PF (x : List UInt8) : Prop := (cutF x).2.2 = true ∧ PE (cutF x).2.1 ∧ ∀ c r, x = c :: r → isD c = false

theorem pe_nil : PE [] := ⟨rfl, rfl, fun c r h => by cases h⟩

theorem numE_cut {t : List UInt8} {p q : Nat} {u : Unit} (h : numE t p = .ok u q) : PE (sgl t p q) := by
  unfold numE at h
  split at h
  · rename_i he
    obtain ⟨e1, e2⟩ := sgl_tk he
    have hl := tk_lt he
    have hc : t.getD p 0 = 101 ∨ t.getD p 0 = 69 := by simpa using e2
    simp only at h
    obtain ⟨p2, hp2⟩ : ∃ p2, (if tk t [43, 45] (p + 1) = true then p + 2 else p + 1) = p2 := ⟨_, rfl⟩
    rw [hp2] at h
    split at h
    · rename_i hd
      cases h
      have hdg := skp_dg hd
      have hp2' : p + 1 ≤ p2 := by rw [← hp2]; split <;> omega
      rw [sgl_app t (show p ≤ p + 1 by omega) (show p + 1 ≤ _ by omega), e1]
      have hD := sgl_digs t p2
      have hne := sgl_dne hd
      obtain ⟨D, hDD⟩ : ∃ D, sgl t p2 (skp t digitsS p2) = D := ⟨_, rfl⟩
      rw [hDD] at hD hne
      have hdd : digs D = D ∧ rst D = [] := by have := digs_app D [] hD (fun c t h => by cases h); simpa using this
      have hDne : D ≠ [] := by rw [hne]; simp
      have hsk : skS (sgl t (p + 1) (skp t digitsS p2)) = D := by
        unfold skS
        by_cases hs : tk t [43, 45] (p + 1) = true
        · rw [if_pos hs] at hp2
          subst hp2
          obtain ⟨s1, s2⟩ := sgl_tk hs
          rw [sgl_app t (show p + 1 ≤ p + 1 + 1 by omega) (show p + 1 + 1 ≤ _ by omega), s1, hDD]
          have hsc : t.getD (p + 1) 0 = 43 ∨ t.getD (p + 1) 0 = 45 := by simpa using s2
          rw [if_pos (by unfold isS; rcases hsc with h | h <;> rw [h] <;> simp)]
          rfl
        · rw [if_neg hs] at hp2
          subst hp2
          rw [hDD, if_neg]
          intro hS
          rw [hne] at hS
          have hx := dig_is (sgl_tk hd).2
          unfold isS at hS
          simp only [List.head?_cons, Option.some.injEq] at hS
          rcases hS with h | h <;> (rw [h] at hx; revert hx; decide)
      have hE : isE ([t.getD p 0] ++ sgl t (p + 1) (skp t digitsS p2)) := by unfold isE; rcases hc with h | h <;> rw [h] <;> simp
      refine ⟨?_, ?_, ?_⟩
      · unfold cutP
        rw [if_pos hE]
        show rst (skS (sgl t (p + 1) (skp t digitsS p2))) = []
        rw [hsk, hdd.2]
      · unfold cutP
        rw [if_pos hE]
        show (!(digs (skS (sgl t (p + 1) (skp t digitsS p2)))).isEmpty) = true
        rw [hsk, hdd.1]
        simpa using hDne
      · intro c r hcr
        have : t.getD p 0 = c := by simp at hcr; simpa using hcr.1
        rw [← this]
        rcases hc with h | h <;> rw [h] <;> decide
    · cases h
  · cases h
    rw [sgl_nil]
    exact pe_nil

theorem PE.noF {x : List UInt8} (h : PE x) : PF x := by
  have hc : cutF x = ([], x, true) := by
    unfold cutF
    rw [if_neg]
    intro he
    cases x with
    | nil => cases he
    | cons c r =>
      have := (h.2.2 c r rfl).2
      simp at he
      exact this he
  refine ⟨by rw [hc], by rw [hc]; exact h, fun c r e => (h.2.2 c r e).1⟩

theorem numF_cut {t : List UInt8} {p q : Nat} {u : Unit} (_hp : p ≤ t.length) (h : numF t p = .ok u q) : PF (sgl t p q) := by
  unfold numF at h
  split at h
  · rename_i hdot
    obtain ⟨e1, e2⟩ := sgl_tk hdot
    have hc : t.getD p 0 = 46 := by simpa using e2
    split at h
    · rename_i hd
      have hdg := skp_dg hd
      have hq := numE_ok hdg.2 h
      have hE := numE_cut h
      have hD := sgl_digs t (p + 1)
      have hne := sgl_dne hd
      rw [sgl_app t (show p ≤ p + 1 by omega) (show p + 1 ≤ q by omega), e1, hc, sgl_app t (show p + 1 ≤ skp t digitsS (p + 1) by omega) hq.1]
      have hdd := digs_app _ _ hD (fun c r e => (hE.2.2 c r e).1)
      have hcF : cutF ([46] ++ (sgl t (p + 1) (skp t digitsS (p + 1)) ++ sgl t (skp t digitsS (p + 1)) q)) = (sgl t (p + 1) (skp t digitsS (p + 1)), sgl t (skp t digitsS (p + 1)) q, true) := by
        unfold cutF
        rw [if_pos (by simp)]
        simp only [List.cons_append, List.nil_append, List.tail_cons]
        rw [hdd.1, hdd.2, hne]
        rfl
      refine ⟨by rw [hcF], by rw [hcF]; exact hE, fun c r e => ?_⟩
      have : (46 : UInt8) = c := by simp at e; exact e.1
      rw [← this]; decide
    · cases h
  · exact (numE_cut h).noF

theorem numI_cut {t : List UInt8} {p q : Nat} {u : Unit} (h : numI t p = .ok u q) : ∃ c r, sgl t p q = c :: r ∧ isD c = true ∧ ∀ m, (pcut1 m (sgl t p q)).isSome = true := by
  have key : ∀ (g : List UInt8) (y : List UInt8), (∀ c ∈ g, isD c = true) → badW g = false → PF y → ∀ m, (pcut1 m (g ++ y)).isSome = true := by
    intro g y hg hb hy m
    have hdd := digs_app g y hg hy.2.2
    unfold pcut1 pcut2
    rw [hdd.1, hdd.2, if_neg (by rw [hb]; decide)]
    unfold pcut3
    rw [if_neg (by rw [hy.1]; decide)]
    unfold pcut4
    rw [if_neg (by rw [hy.2.1.2.1]; decide), if_pos hy.2.1.1]
    rfl
  unfold numI at h
  split at h
  · rename_i h0
    obtain ⟨e1, e2⟩ := sgl_tk h0
    have hc : t.getD p 0 = 48 := by simpa using e2
    have hl := tk_lt h0
    have hq := numF_ok (by omega) h
    rw [sgl_app t (show p ≤ p + 1 by omega) (show p + 1 ≤ q by omega), e1, hc]
    refine ⟨48, _, rfl, by decide, key [48] _ (by simp; decide) (by decide) (numF_cut (by omega) h)⟩
  · rename_i h0
    split at h
    · rename_i hd
      have hdg := skp_dg hd
      have hq := numF_ok hdg.2 h
      have hD := sgl_digs t p
      have hne := sgl_dne hd
      have hc0 : t.getD p 0 ≠ 48 := fun e => h0 (by
        unfold tk
        rw [e]
        simp
        omega)
      rw [sgl_app t (show p ≤ skp t digitsS p by omega) hq.1]
      refine ⟨t.getD p 0, sgl t (p + 1) (skp t digitsS p) ++ sgl t (skp t digitsS p) q, by rw [hne]; rfl, dig_is (sgl_tk hd).2, key _ _ hD ?_ (numF_cut hdg.2 h)⟩
      unfold badW
      rw [hne]
      simp [-List.getD_eq_getElem?_getD, hc0]
    · cases h

theorem nc : NC := by
  intro t p q u h
  unfold numL at h
  split at h
  · rename_i hm
    obtain ⟨e1, e2⟩ := sgl_tk hm
    have hc : t.getD p 0 = 45 := by simpa using e2
    have hq := numI_ok h
    obtain ⟨c, r, _, _, hh⟩ := numI_cut h
    rw [sgl_app t (show p ≤ p + 1 by omega) (show p + 1 ≤ q by omega), e1, hc]
    unfold pcut cutL
    rw [if_pos (by simp)]
    exact hh _
  · obtain ⟨c, r, e, hd, hh⟩ := numI_cut h
    unfold pcut cutL
    rw [if_neg]
    · exact hh _
    · intro h2
      rw [e] at h2
      simp at h2
      rw [h2] at hd
      revert hd
      decide

theorem parse_val {t : List UInt8} (h : (parseF t).2.1 = 0) : Sq 0 [[]] (parseF t).1 := parse_sq qv nc h

end Go.Proofs.YtjehkpndchadbaaGreatDoor
