import Derived.Test.YtpfdaclmchcbiaaDoorShSum
namespace Go.Proofs.YtpfdaclmchcbiaaDoor.Sha
open Go.RowKit
set_option maxRecDepth 100000

theorem Rd.below {w w' : World} {ao : Option Addr} {l : List UInt8} {n : Nat} (h : Rd w ao l) (hb : Below n w w') (hn : w.heap.size ≤ n) : Rd w' ao l := by
  rcases h with h | ⟨g, off, e, hg, hc⟩
  · exact .inl h
  · exact .inr ⟨g, off, e, Nat.lt_of_lt_of_le hg hb.size, fun j hj => cell_but (hc j hj) fun h1 => hb.block g (by omega)⟩
theorem Rd.drewN {w : World} {ao : Option Addr} {l : List UInt8} (h : Rd w ao l) (q : Nat) : Rd (w.drewN q) ao l := h
theorem Rd.but {w w' : World} {ao : Option Addr} {l : List UInt8} {b : Nat} (h : Rd w ao l) (hb : But w w' b) (ho : Off ao l b) : Rd w' ao l := by
  rcases h with h | ⟨g, off, e, hg, hc⟩
  · exact .inl h
  · by_cases hl : l = []
    · exact .inl hl
    · exact .inr ⟨g, off, e, Nat.lt_of_lt_of_le hg hb.size, fun j hj => cell_but (hc j hj) fun h1 => hb.block g h1 (ho _ hl e)⟩
theorem Rd.off {w : World} {ao : Option Addr} {l : List UInt8} (h : Rd w ao l) (b : Nat) (hb : w.heap.size ≤ b) : Off ao l b := by
  intro a hne e
  rcases h with h | ⟨g, off, e2, hg, _⟩
  · exact absurd h hne
  · rw [e] at e2
    cases e2
    show g ≠ b
    omega

/-- An answer of bytes: none, or all of a block that is no elder one. -/
def Own (w : World) (B0 : Nat) (a : Option Addr) (l : List UInt8) : Prop := (a = none ∧ l = []) ∨ ∃ g, a = some ⟨g, 0, none⟩ ∧ B0 ≤ g ∧ Bl 5 w g (l.map B)
theorem Own.rd {w : World} {B0 : Nat} {a : Option Addr} {l : List UInt8} (h : Own w B0 a l) : Rd w a l := by
  rcases h with ⟨_, h⟩ | ⟨g, e, _, hc⟩
  · exact .inl h
  · refine .inr ⟨g, 0, e, hc.lt, fun j hj => ?_⟩
    rw [Nat.zero_add, hc.cell j (by simpa using hj), List.getElem_map, List.getD_eq_getElem?_getD, List.getElem?_eq_getElem hj]
    rfl
theorem Own.below {w w' : World} {B0 n : Nat} {a : Option Addr} {l : List UInt8} (h : Own w B0 a l) (hb : Below n w w') (hn : w.heap.size ≤ n) : Own w' B0 a l := by
  rcases h with h | ⟨g, e, hg, hc⟩
  · exact .inl h
  · exact .inr ⟨g, e, hg, hc.below hb (by have := hc.lt; omega)⟩

/-- A part: where its bytes lie, its room, its bytes. -/
structure Prt where
  a : Option Addr
  c : Nat
  l : List UInt8
/-- The parts' bytes, one behind the other. -/
def cat (ps : List Prt) : List UInt8 := ps.flatMap (·.l)
def prV (p : Prt) : Value := .slice p.a p.l.length p.c
/-- Each of them can be read. -/
def prOk (w : World) (p : Prt) : Prop := Rd w p.a p.l ∧ p.l.length ≤ p.c ∧ p.c ≤ 9223372036854775807
/-- A list of parts lies there. -/
def Pts (w : World) (pa : Option Addr) (ps : List Prt) : Prop :=
  (ps = [] ∨ ∃ g off : Nat, pa = some ⟨g, off, none⟩ ∧ ∀ j, (hj : j < ps.length) → w.cell? ⟨g, off + j, none⟩ = some (prV ps[j])) ∧ ∀ p ∈ ps, prOk w p

theorem cell_lt {w : World} {g i : Nat} {v : Value} (h : w.cell? ⟨g, i, none⟩ = some v) : g < w.heap.size := by
  rcases Nat.lt_or_ge g w.heap.size with h1 | h1
  · exact h1
  · exfalso
    unfold World.cell? at h
    simp [Array.getElem?_eq_none h1] at h

theorem cat_append (a b : List Prt) : cat (a ++ b) = cat a ++ cat b := by unfold cat; exact List.flatMap_append
theorem cat_take (ps : List Prt) (k : Nat) (hk : k < ps.length) : cat (ps.take (k + 1)) = cat (ps.take k) ++ ps[k].l := by
  rw [List.take_succ_eq_append_getElem hk, cat_append]
  simp [cat]
theorem cat_take_le (ps : List Prt) (k : Nat) : (cat (ps.take k)).length ≤ (cat ps).length := by
  have h := congrArg cat (List.take_append_drop k ps)
  rw [cat_append] at h
  rw [← h, List.length_append]
  omega

theorem siz_not {h : Int} (hh : ¬ isH h) (m : List UInt8) : siz h = 0 ∧ sumF h m = [] := by
  have h1 : h ≠ 1 := fun e => hh (.inl e)
  have h2 : h ≠ 2 := fun e => hh (.inr (.inl e))
  have h3 : h ≠ 3 := fun e => hh (.inr (.inr e))
  constructor
  · unfold siz; rw [if_neg h1, if_neg h2, if_neg h3]
  · unfold sumF; rw [if_neg h1, if_neg h2, if_neg h3]

set_option maxRecDepth 100000 in
set_option maxHeartbeats 1000000 in
theorem ssum_any (h : Int) (pa : Option Addr) (pc : Nat) (ps : List Prt) (w : World) (T : Tb w) (hp : Pts w pa ps) (hn : ps.length ≤ 2305843009213693952) (hm : (cat ps).length < 2305843009213693952) :
    Calls Tryd.prog 7 #[.int .i64 h, .slice pa ps.length pc] w fun e w' => ∃ a, e = .returned (.slice a (siz h) (siz h)) ∧ Own w' w.heap.size a (sumF h (cat ps)) ∧ Below w.heap.size w w' := by
  by_cases hh : isH h
  · have HT : Hid (Tb w) := T
    have HP : Hid (Pts w pa ps) := hp
    have hg7 : 7 ≤ w.heap.size := by have := cell_lt (T.k 0 (by omega)); omega
    clear T hp
    go_enter Tryd.func7, Tryd.ntmps7
    go_wp2_with fail
    refine (new_any h w hh HT.out).mono ?_
    rintro e w1 ⟨rfl, hs1, hb1⟩
    have HS1 : Hid (Sta w1 w.heap.size h (cat (ps.take 0))) := hs1
    have HB1 : Hid (Below w.heap.size w w1) := hb1
    clear hs1 hb1
    go_wp2
    go_loopw [14] (fun s ws => ∃ k : Nat, s = .int .i64 (k : Int) ∧ k ≤ ps.length ∧ Hid (Sta ws w.heap.size h (cat (ps.take k))) ∧ Hid (Below w.heap.size w ws)) (fun s _ => ps.length - (intOf s).toNat)
    case atStart => exact ⟨0, rfl, by omega, HS1, HB1⟩
    case round =>
      clear HS1 HB1
      obtain ⟨k, rfl, hk, hst, hbel⟩ := hrel
      by_cases hlt : k < ps.length
      · have Ht : Hid (True → cat (ps.take (k + 1)) = cat (ps.take k) ++ ps[k].l) := fun _ => cat_take ps k hlt
        have hl1 := cat_take_le ps k
        have hl2 := cat_take_le ps (k + 1)
        rw [Ht.out trivial, List.length_append] at hl2
        obtain ⟨h1, h2⟩ := HP.out
        have hpk := h2 ps[k] (List.getElem_mem hlt)
        obtain ⟨g, off, rfl, hc⟩ : ∃ g off : Nat, pa = some ⟨g, off, none⟩ ∧ ∀ j, (hj : j < ps.length) → w.cell? ⟨g, off + j, none⟩ = some (prV ps[j]) := by
          rcases h1 with h1 | h1
          · subst h1; simp at hlt
          · exact h1
        have gk : wr.cell? ⟨g, off + k, none⟩ = some (prV ps[k]) := cell_but (hc k hlt) fun h3 => hbel.out.block g h3
        have C := write_any w.heap.size h (cat (ps.take k)) ps[k].l ps[k].a ps[k].c wr hst.out hh (HT.out.below hbel.out) hg7 (hpk.1.below hbel.out (Nat.le_refl _)) (hpk.1.off _ (Nat.le_refl _)) hpk.2.1 (by omega) (by omega) hpk.2.2
        unfold prV at gk
        clear hc h1 h2 hpk
        generalize ps[k] = p at *
        go_wp2_with fail
        refine C.mono ?_
        rintro e w4 ⟨rfl, hs4, hb4⟩
        have HS4 : Hid (Sta w4 w.heap.size h (cat (ps.take (k + 1)))) := by rw [Ht.out trivial]; exact hs4
        have HB4 : Hid (Below w.heap.size w w4) := hbel.out.trans (hb4.below hbel.out.size (Nat.le_refl _))
        clear C hs4 hb4 Ht
        go_wp2
        exact ⟨⟨k + 1, by go_num, by omega, HS4, HB4⟩, by simp [intOf]; omega⟩
      · obtain rfl : k = ps.length := by omega
        have hst2 : Hid (Sta wr w.heap.size h (cat ps)) := by have := hst.out; rw [List.take_length] at this; exact this
        clear hst hlt hk
        go_wp2_with fail
        refine (sum_any w.heap.size h (cat ps) wr hst2.out hh (HT.out.below hbel.out) hm).mono ?_
        rintro e w5 ⟨g5, rfl, hg5, hc5, hb5⟩
        have HC5 : Hid (Bl 5 w5 g5 ((sumF h (cat ps)).map B)) := hc5
        have HB5 : Hid (Below w.heap.size w w5) := hbel.out.trans (hb5.mono hbel.out.size)
        have hg6 : w.heap.size ≤ g5 := Nat.le_trans hbel.out.size hg5
        clear hc5 hb5
        go_wp2
        go_ret
        exact ⟨_, rfl, .inr ⟨g5, rfl, hg6, HC5.out⟩, HB5.out⟩
  · have hz := siz_not hh (cat ps)
    have Hz : Hid (True → siz h = 0 ∧ sumF h (cat ps) = []) := fun _ => hz
    clear hz
    go_enter Tryd.func7, Tryd.ntmps7
    go_wp2_with fail
    refine (new_none h w hh).mono ?_
    rintro e w1 ⟨rfl, hb1⟩
    have HB1 : Hid (Below w.heap.size w w1) := hb1
    clear hb1
    go_wp2
    go_ret
    rw [(Hz.out trivial).1, (Hz.out trivial).2]
    exact ⟨none, rfl, .inl ⟨rfl, rfl⟩, HB1.out⟩

/-- What is no hash has no sum. -/
theorem ssum_none (h : Int) (pa : Option Addr) (pc n : Nat) (w : World) (hh : ¬ isH h) :
    Calls Tryd.prog 7 #[.int .i64 h, .slice pa n pc] w fun e w' => e = .returned (.slice none 0 0) ∧ Below w.heap.size w w' := by
  go_enter Tryd.func7, Tryd.ntmps7
  go_wp2_with fail
  refine (new_none h w hh).mono ?_
  rintro e w1 ⟨rfl, hb1⟩
  have HB1 : Hid (Below w.heap.size w w1) := hb1
  clear hb1
  go_wp2
  go_ret
  exact ⟨rfl, HB1.out⟩

end Go.Proofs.YtpfdaclmchcbiaaDoor.Sha