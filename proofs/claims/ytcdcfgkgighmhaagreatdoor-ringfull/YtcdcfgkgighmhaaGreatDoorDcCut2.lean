import Derived.Test.YtcdcfgkgighmhaaGreatDoorDcPow
namespace Go.Proofs.YtcdcfgkgighmhaaGreatDoor.Dec
open Go.RowKit

def cutL (l : List UInt8) : List UInt8 := if l.head? = some 45 then l.tail else l
def badW (g : List UInt8) : Bool := g.isEmpty || (decide (1 < g.length) && decide (g.head? = some 48))

abbrev PartsM := Bool × List UInt8 × List UInt8 × Bool × List UInt8

/-- What cut tells of a text behind its sign: its first digits, and what follows. -/
def pcut4 (m : Bool) (g f : List UInt8) (p : Bool) (d r : List UInt8) (ok : Bool) : Option PartsM :=
  if ok = false then none else if r = [] then some (m, g, f, p, d) else none
def pcut3 (m : Bool) (g f r : List UInt8) (ok : Bool) : Option PartsM :=
  if ok = false then none else pcut4 m g f (cutP r).1 (cutP r).2.1 (cutP r).2.2.1 (cutP r).2.2.2
def pcut2 (m : Bool) (g r : List UInt8) : Option PartsM :=
  if badW g = true then none else pcut3 m g (cutF r).1 (cutF r).2.1 (cutF r).2.2
def pcut1 (m : Bool) (l : List UInt8) : Option PartsM := pcut2 m (digs l) (rst l)

/-- The parts of a number's text, or none. -/
def pcut (l : List UInt8) : Option PartsM := pcut1 (decide (l.head? = some 45)) (cutL l)

def pvals : Option PartsM → Value
  | none => .agg #[.bool false, .string ⟨#[]⟩, .string ⟨#[]⟩, .bool false, .string ⟨#[]⟩]
  | some (m, g, f, p, d) => .agg #[.bool m, .string ⟨g.toArray⟩, .string ⟨f.toArray⟩, .bool p, .string ⟨d.toArray⟩]

theorem nd_len (l : List UInt8) : (digs l).length ≤ l.length ∧ (rst l).length ≤ l.length := by
  have := nd_le l
  rw [digs_length]; unfold rst; rw [List.length_drop]; omega

theorem cutF_len (l : List UInt8) : (cutF l).2.1.length ≤ l.length := by
  unfold cutF
  split
  · have := (nd_len l.tail).2
    rw [List.length_tail] at this
    show (rst l.tail).length ≤ _
    omega
  · exact Nat.le_refl _

theorem u8_eq48 (x : UInt8) : ((x.toNat : Int) == 48) = decide (x = 48) := by
  by_cases h : x = 48
  · subst h; rfl
  · have : x.toNat ≠ 48 := fun e => h (UInt8.toNat_inj.1 e)
    simp [h]; omega

set_option maxHeartbeats 2000000 in
theorem cut_plus (l : List UInt8) (w : World) (hlen : l.length ≤ 281474976710656) (hm : ¬ l.head? = some 45) :
    Calls Tryz.prog 108 #[.string ⟨l.toArray⟩] w fun e w' => e = .returned (.tuple #[pvals (pcut1 false l), .bool (pcut1 false l).isSome]) ∧ Below w.heap.size w w' := by
  have Hm : Hid ((if l.head? = some 45 then (0 : Int) else 1) = 1) := by show _ = _; rw [if_neg hm]
  have Hp : Hid (pcut1 false l = pcut2 false (digs l) (rst l)) := rfl
  have hr := (nd_len l).2
  have hF := cutF_len (rst l)
  clear hm
  go_enter Tryz.func108, Tryz.ntmps108
  go_wp2_with fail
  refine (firstPart_any l _ hlen).mono ?_
  rintro e w' ⟨rfl, rfl⟩
  rw [Hm.out]
  go_wp2_with fail
  refine (cutDigits_any l _ hlen).mono ?_
  rintro e w' ⟨rfl, q, rfl⟩
  generalize digs l = g at Hp ⊢
  generalize rst l = r at Hp hr hF ⊢
  by_cases hg : g = []
  · have Hr : Hid (pcut2 false g r = none) := by subst hg; rfl
    have hg' : g.isEmpty = true := by subst hg; rfl
    clear hg
    go_wp2
    (try simp only [Exit.inBlock, Exit.then])
    refine bodyPost_ret (v := .tuple #[.agg #[.bool false, .string ⟨#[]⟩, .string ⟨#[]⟩, .bool false, .string ⟨#[]⟩], .bool false]) ?_ rfl ⟨?_, ?_⟩
    · rw [results_cell_tmp rfl]; go_simp
    · rw [Hp.out, Hr.out]; rfl
    · (repeat' (first | with_reducible assumption | with_reducible exact Below.refl _ _ | with_reducible exact Nat.le_refl _ | with_reducible refine Below.setCell ?_ ?_ _ | with_reducible refine Below.alloc ?_ ?_ _ | with_reducible apply Below.drew | with_reducible apply below_drewN | omega | (simp; done) | (simp; omega)))
  · have hg' : g.isEmpty = false := by simpa using hg
    obtain ⟨c, hc⟩ : ∃ c, g.head? = some c := by
      cases g with
      | nil => exact absurd rfl hg
      | cons x y => exact ⟨x, rfl⟩
    have hl1 : 1 ≤ g.length := by
      cases g with
      | nil => exact absurd rfl hg
      | cons x y => simp
    have gx : (⟨g.toArray⟩ : ByteArray)[0]'(by show 0 < g.toArray.size; simp; omega) = c := by
      cases g with
      | nil => exact absurd rfl hg
      | cons x y => have e : x = c := by simpa using hc
                    subst e; rfl
    clear hg
    by_cases hbad : 1 < g.length ∧ c = 48
    · have Hr : Hid (pcut2 false g r = none) := by
        show _ = _
        have : badW g = true := by unfold badW; rw [hc, hbad.2]; simp [hbad.1]
        unfold pcut2; rw [if_pos this]
      have h2 : 1 < g.length := hbad.1
      have hq : ((c.toNat : Int) == 48) = true := by rw [u8_eq48, hbad.2]; rfl
      clear hc hbad
      go_wp2
      (try simp only [Exit.inBlock, Exit.then])
      refine bodyPost_ret (v := .tuple #[.agg #[.bool false, .string ⟨#[]⟩, .string ⟨#[]⟩, .bool false, .string ⟨#[]⟩], .bool false]) ?_ rfl ⟨?_, ?_⟩
      · rw [results_cell_tmp rfl]; go_simp
      · rw [Hp.out, Hr.out]; rfl
      · (repeat' (first | with_reducible assumption | with_reducible exact Below.refl _ _ | with_reducible exact Nat.le_refl _ | with_reducible refine Below.setCell ?_ ?_ _ | with_reducible refine Below.alloc ?_ ?_ _ | with_reducible apply Below.drew | with_reducible apply below_drewN | omega | (simp; done) | (simp; omega)))
    · have Hb : Hid (¬ badW g = true) := by
        show ¬ _
        unfold badW; rw [hc, hg']; simp; intro h1 h2; exact hbad ⟨h1, h2⟩
      have hq2 : 1 < g.length → ((c.toNat : Int) == 48) = false := by
        intro h; rw [u8_eq48]; exact decide_eq_false fun e => hbad ⟨h, e⟩
      have hcases : (g.length ≤ 1) ∨ (1 < g.length ∧ ((c.toNat : Int) == 48) = false) := by
        by_cases h : 1 < g.length
        · exact .inr ⟨h, hq2 h⟩
        · exact .inl (by omega)
      clear hc hbad hq2
      have Hn : Hid (pcut2 false g r = pcut3 false g (cutF r).1 (cutF r).2.1 (cutF r).2.2) := by show _ = _; unfold pcut2; rw [if_neg Hb.out]
      rcases hcases with hle | ⟨hgt, hq⟩
      all_goals go_wp2_with fail
      all_goals refine (cutFraction_any r _ (by omega)).mono ?_
      all_goals rintro e w' ⟨rfl, q2, rfl⟩
      all_goals generalize (cutF r).1 = f at Hn ⊢
      all_goals generalize (cutF r).2.1 = r2 at Hn hF ⊢
      all_goals generalize (cutF r).2.2 = ok at Hn ⊢
      all_goals cases ok
      · have Hr : Hid (pcut2 false g r = none) := Hn
        go_wp2
        (try simp only [Exit.inBlock, Exit.then])
        refine bodyPost_ret (v := .tuple #[.agg #[.bool false, .string ⟨#[]⟩, .string ⟨#[]⟩, .bool false, .string ⟨#[]⟩], .bool false]) ?_ rfl ⟨?_, ?_⟩
        · rw [results_cell_tmp rfl]; go_simp
        · rw [Hp.out, Hr.out]; rfl
        · (repeat' (first | with_reducible assumption | with_reducible exact Below.refl _ _ | with_reducible exact Nat.le_refl _ | with_reducible refine Below.setCell ?_ ?_ _ | with_reducible refine Below.alloc ?_ ?_ _ | with_reducible apply Below.drew | with_reducible apply below_drewN | omega | (simp; done) | (simp; omega)))
      · have Hn2 : Hid (pcut3 false g f r2 true = pcut4 false g f (cutP r2).1 (cutP r2).2.1 (cutP r2).2.2.1 (cutP r2).2.2.2) := rfl
        go_wp2_with fail
        refine (cutPower_any r2 _ (by omega)).mono ?_
        rintro e w2 ⟨rfl, hB⟩
        have c00 : w2.cell? ⟨w.heap.size, 0, none⟩ = some (.bool false) := (hB.cell (by go_simp)).trans (by go_simp)
        have f00 : w2.frozen? ⟨w.heap.size, 0, none⟩ = false := (hB.frozen (by go_simp)).trans (by go_simp)
        have c01 : w2.cell? ⟨w.heap.size, 1, none⟩ = some (.string ⟨#[]⟩) := (hB.cell (by go_simp)).trans (by go_simp)
        have f01 : w2.frozen? ⟨w.heap.size, 1, none⟩ = false := (hB.frozen (by go_simp)).trans (by go_simp)
        have c02 : w2.cell? ⟨w.heap.size, 2, none⟩ = some (.string ⟨#[]⟩) := (hB.cell (by go_simp)).trans (by go_simp)
        have f02 : w2.frozen? ⟨w.heap.size, 2, none⟩ = false := (hB.frozen (by go_simp)).trans (by go_simp)
        have c03 : w2.cell? ⟨w.heap.size, 3, none⟩ = some (.bool false) := (hB.cell (by go_simp)).trans (by go_simp)
        have f03 : w2.frozen? ⟨w.heap.size, 3, none⟩ = false := (hB.frozen (by go_simp)).trans (by go_simp)
        have c04 : w2.cell? ⟨w.heap.size, 4, none⟩ = some (.string ⟨#[]⟩) := (hB.cell (by go_simp)).trans (by go_simp)
        have f04 : w2.frozen? ⟨w.heap.size, 4, none⟩ = false := (hB.frozen (by go_simp)).trans (by go_simp)
        have c10 : w2.cell? ⟨w.heap.size + 1, 0, none⟩ = some (.bool false) := (hB.cell (by go_simp)).trans (by go_simp)
        have f10 : w2.frozen? ⟨w.heap.size + 1, 0, none⟩ = false := (hB.frozen (by go_simp)).trans (by go_simp)
        have c11 : w2.cell? ⟨w.heap.size + 1, 1, none⟩ = some (.string ⟨g.toArray⟩) := (hB.cell (by go_simp)).trans (by go_simp)
        have f11 : w2.frozen? ⟨w.heap.size + 1, 1, none⟩ = false := (hB.frozen (by go_simp)).trans (by go_simp)
        have c12 : w2.cell? ⟨w.heap.size + 1, 2, none⟩ = some (.string ⟨f.toArray⟩) := (hB.cell (by go_simp)).trans (by go_simp)
        have f12 : w2.frozen? ⟨w.heap.size + 1, 2, none⟩ = false := (hB.frozen (by go_simp)).trans (by go_simp)
        have c13 : w2.cell? ⟨w.heap.size + 1, 3, none⟩ = some (.bool false) := (hB.cell (by go_simp)).trans (by go_simp)
        have f13 : w2.frozen? ⟨w.heap.size + 1, 3, none⟩ = false := (hB.frozen (by go_simp)).trans (by go_simp)
        have c14 : w2.cell? ⟨w.heap.size + 1, 4, none⟩ = some (.string ⟨#[]⟩) := (hB.cell (by go_simp)).trans (by go_simp)
        have f14 : w2.frozen? ⟨w.heap.size + 1, 4, none⟩ = false := (hB.frozen (by go_simp)).trans (by go_simp)
        have hB2 : Below w.heap.size w w2 := by
          refine Below.trans ?_ (Below.mono hB (by simp <;> omega))
          (repeat' (first | with_reducible assumption | with_reducible exact Below.refl _ _ | with_reducible exact Nat.le_refl _ | with_reducible refine Below.setCell ?_ ?_ _ | with_reducible refine Below.alloc ?_ ?_ _ | with_reducible apply Below.drew | with_reducible apply below_drewN | omega | (simp; done) | (simp; omega)))
        clear hB
        generalize (cutP r2).1 = pm at Hn2 ⊢
        generalize (cutP r2).2.1 = pd at Hn2 ⊢
        generalize (cutP r2).2.2.1 = r3 at Hn2 ⊢
        generalize (cutP r2).2.2.2 = ok2 at Hn2 ⊢
        cases ok2
        · have Hr : Hid (pcut2 false g r = none) := Hn.out.trans Hn2.out
          go_wp2
          (try simp only [Exit.inBlock, Exit.then])
          refine bodyPost_ret (v := .tuple #[.agg #[.bool false, .string ⟨#[]⟩, .string ⟨#[]⟩, .bool false, .string ⟨#[]⟩], .bool false]) ?_ rfl ⟨?_, ?_⟩
          · rw [results_cell_tmp rfl]; go_simp
          · rw [Hp.out, Hr.out]; rfl
          · (repeat' (first | with_reducible assumption | with_reducible exact Below.refl _ _ | with_reducible exact Nat.le_refl _ | with_reducible refine Below.setCell ?_ ?_ _ | with_reducible refine Below.alloc ?_ ?_ _ | with_reducible apply Below.drew | with_reducible apply below_drewN | omega | (simp; done) | (simp; omega)))
        · by_cases h3 : r3 = []
          · have Hr : Hid (pcut2 false g r = some (false, g, f, pm, pd)) := by
              show _ = _
              rw [Hn.out, Hn2.out]; unfold pcut4; rw [if_neg (by simp), if_pos h3]
            have h3' : r3.isEmpty = true := by simpa using h3
            clear h3
            go_wp2
            (try simp only [Exit.inBlock, Exit.then])
            refine bodyPost_ret (v := .tuple #[.agg #[.bool false, .string ⟨g.toArray⟩, .string ⟨f.toArray⟩, .bool pm, .string ⟨pd.toArray⟩], .bool true]) ?_ rfl ⟨?_, ?_⟩
            · rw [results_cell_tmp rfl]; go_simp
            · rw [Hp.out, Hr.out]; rfl
            · (repeat' (first | with_reducible assumption | with_reducible exact Below.refl _ _ | with_reducible exact Nat.le_refl _ | with_reducible refine Below.setCell ?_ ?_ _ | with_reducible refine Below.alloc ?_ ?_ _ | with_reducible apply Below.drew | with_reducible apply below_drewN | omega | (simp; done) | (simp; omega)))
          · have Hr : Hid (pcut2 false g r = none) := by
              show _ = _
              rw [Hn.out, Hn2.out]; unfold pcut4; rw [if_neg (by simp), if_neg h3]
            have h3' : r3.isEmpty = false := by simpa using h3
            clear h3
            go_wp2
            (try simp only [Exit.inBlock, Exit.then])
            refine bodyPost_ret (v := .tuple #[.agg #[.bool false, .string ⟨#[]⟩, .string ⟨#[]⟩, .bool false, .string ⟨#[]⟩], .bool false]) ?_ rfl ⟨?_, ?_⟩
            · rw [results_cell_tmp rfl]; go_simp
            · rw [Hp.out, Hr.out]; rfl
            · (repeat' (first | with_reducible assumption | with_reducible exact Below.refl _ _ | with_reducible exact Nat.le_refl _ | with_reducible refine Below.setCell ?_ ?_ _ | with_reducible refine Below.alloc ?_ ?_ _ | with_reducible apply Below.drew | with_reducible apply below_drewN | omega | (simp; done) | (simp; omega)))
      · have Hr : Hid (pcut2 false g r = none) := Hn
        go_wp2
        (try simp only [Exit.inBlock, Exit.then])
        refine bodyPost_ret (v := .tuple #[.agg #[.bool false, .string ⟨#[]⟩, .string ⟨#[]⟩, .bool false, .string ⟨#[]⟩], .bool false]) ?_ rfl ⟨?_, ?_⟩
        · rw [results_cell_tmp rfl]; go_simp
        · rw [Hp.out, Hr.out]; rfl
        · (repeat' (first | with_reducible assumption | with_reducible exact Below.refl _ _ | with_reducible exact Nat.le_refl _ | with_reducible refine Below.setCell ?_ ?_ _ | with_reducible refine Below.alloc ?_ ?_ _ | with_reducible apply Below.drew | with_reducible apply below_drewN | omega | (simp; done) | (simp; omega)))
      · have Hn2 : Hid (pcut3 false g f r2 true = pcut4 false g f (cutP r2).1 (cutP r2).2.1 (cutP r2).2.2.1 (cutP r2).2.2.2) := rfl
        go_wp2_with fail
        refine (cutPower_any r2 _ (by omega)).mono ?_
        rintro e w2 ⟨rfl, hB⟩
        have c00 : w2.cell? ⟨w.heap.size, 0, none⟩ = some (.bool false) := (hB.cell (by go_simp)).trans (by go_simp)
        have f00 : w2.frozen? ⟨w.heap.size, 0, none⟩ = false := (hB.frozen (by go_simp)).trans (by go_simp)
        have c01 : w2.cell? ⟨w.heap.size, 1, none⟩ = some (.string ⟨#[]⟩) := (hB.cell (by go_simp)).trans (by go_simp)
        have f01 : w2.frozen? ⟨w.heap.size, 1, none⟩ = false := (hB.frozen (by go_simp)).trans (by go_simp)
        have c02 : w2.cell? ⟨w.heap.size, 2, none⟩ = some (.string ⟨#[]⟩) := (hB.cell (by go_simp)).trans (by go_simp)
        have f02 : w2.frozen? ⟨w.heap.size, 2, none⟩ = false := (hB.frozen (by go_simp)).trans (by go_simp)
        have c03 : w2.cell? ⟨w.heap.size, 3, none⟩ = some (.bool false) := (hB.cell (by go_simp)).trans (by go_simp)
        have f03 : w2.frozen? ⟨w.heap.size, 3, none⟩ = false := (hB.frozen (by go_simp)).trans (by go_simp)
        have c04 : w2.cell? ⟨w.heap.size, 4, none⟩ = some (.string ⟨#[]⟩) := (hB.cell (by go_simp)).trans (by go_simp)
        have f04 : w2.frozen? ⟨w.heap.size, 4, none⟩ = false := (hB.frozen (by go_simp)).trans (by go_simp)
        have c10 : w2.cell? ⟨w.heap.size + 1, 0, none⟩ = some (.bool false) := (hB.cell (by go_simp)).trans (by go_simp)
        have f10 : w2.frozen? ⟨w.heap.size + 1, 0, none⟩ = false := (hB.frozen (by go_simp)).trans (by go_simp)
        have c11 : w2.cell? ⟨w.heap.size + 1, 1, none⟩ = some (.string ⟨g.toArray⟩) := (hB.cell (by go_simp)).trans (by go_simp)
        have f11 : w2.frozen? ⟨w.heap.size + 1, 1, none⟩ = false := (hB.frozen (by go_simp)).trans (by go_simp)
        have c12 : w2.cell? ⟨w.heap.size + 1, 2, none⟩ = some (.string ⟨f.toArray⟩) := (hB.cell (by go_simp)).trans (by go_simp)
        have f12 : w2.frozen? ⟨w.heap.size + 1, 2, none⟩ = false := (hB.frozen (by go_simp)).trans (by go_simp)
        have c13 : w2.cell? ⟨w.heap.size + 1, 3, none⟩ = some (.bool false) := (hB.cell (by go_simp)).trans (by go_simp)
        have f13 : w2.frozen? ⟨w.heap.size + 1, 3, none⟩ = false := (hB.frozen (by go_simp)).trans (by go_simp)
        have c14 : w2.cell? ⟨w.heap.size + 1, 4, none⟩ = some (.string ⟨#[]⟩) := (hB.cell (by go_simp)).trans (by go_simp)
        have f14 : w2.frozen? ⟨w.heap.size + 1, 4, none⟩ = false := (hB.frozen (by go_simp)).trans (by go_simp)
        have hB2 : Below w.heap.size w w2 := by
          refine Below.trans ?_ (Below.mono hB (by simp <;> omega))
          (repeat' (first | with_reducible assumption | with_reducible exact Below.refl _ _ | with_reducible exact Nat.le_refl _ | with_reducible refine Below.setCell ?_ ?_ _ | with_reducible refine Below.alloc ?_ ?_ _ | with_reducible apply Below.drew | with_reducible apply below_drewN | omega | (simp; done) | (simp; omega)))
        clear hB
        generalize (cutP r2).1 = pm at Hn2 ⊢
        generalize (cutP r2).2.1 = pd at Hn2 ⊢
        generalize (cutP r2).2.2.1 = r3 at Hn2 ⊢
        generalize (cutP r2).2.2.2 = ok2 at Hn2 ⊢
        cases ok2
        · have Hr : Hid (pcut2 false g r = none) := Hn.out.trans Hn2.out
          go_wp2
          (try simp only [Exit.inBlock, Exit.then])
          refine bodyPost_ret (v := .tuple #[.agg #[.bool false, .string ⟨#[]⟩, .string ⟨#[]⟩, .bool false, .string ⟨#[]⟩], .bool false]) ?_ rfl ⟨?_, ?_⟩
          · rw [results_cell_tmp rfl]; go_simp
          · rw [Hp.out, Hr.out]; rfl
          · (repeat' (first | with_reducible assumption | with_reducible exact Below.refl _ _ | with_reducible exact Nat.le_refl _ | with_reducible refine Below.setCell ?_ ?_ _ | with_reducible refine Below.alloc ?_ ?_ _ | with_reducible apply Below.drew | with_reducible apply below_drewN | omega | (simp; done) | (simp; omega)))
        · by_cases h3 : r3 = []
          · have Hr : Hid (pcut2 false g r = some (false, g, f, pm, pd)) := by
              show _ = _
              rw [Hn.out, Hn2.out]; unfold pcut4; rw [if_neg (by simp), if_pos h3]
            have h3' : r3.isEmpty = true := by simpa using h3
            clear h3
            go_wp2
            (try simp only [Exit.inBlock, Exit.then])
            refine bodyPost_ret (v := .tuple #[.agg #[.bool false, .string ⟨g.toArray⟩, .string ⟨f.toArray⟩, .bool pm, .string ⟨pd.toArray⟩], .bool true]) ?_ rfl ⟨?_, ?_⟩
            · rw [results_cell_tmp rfl]; go_simp
            · rw [Hp.out, Hr.out]; rfl
            · (repeat' (first | with_reducible assumption | with_reducible exact Below.refl _ _ | with_reducible exact Nat.le_refl _ | with_reducible refine Below.setCell ?_ ?_ _ | with_reducible refine Below.alloc ?_ ?_ _ | with_reducible apply Below.drew | with_reducible apply below_drewN | omega | (simp; done) | (simp; omega)))
          · have Hr : Hid (pcut2 false g r = none) := by
              show _ = _
              rw [Hn.out, Hn2.out]; unfold pcut4; rw [if_neg (by simp), if_neg h3]
            have h3' : r3.isEmpty = false := by simpa using h3
            clear h3
            go_wp2
            (try simp only [Exit.inBlock, Exit.then])
            refine bodyPost_ret (v := .tuple #[.agg #[.bool false, .string ⟨#[]⟩, .string ⟨#[]⟩, .bool false, .string ⟨#[]⟩], .bool false]) ?_ rfl ⟨?_, ?_⟩
            · rw [results_cell_tmp rfl]; go_simp
            · rw [Hp.out, Hr.out]; rfl
            · (repeat' (first | with_reducible assumption | with_reducible exact Below.refl _ _ | with_reducible exact Nat.le_refl _ | with_reducible refine Below.setCell ?_ ?_ _ | with_reducible refine Below.alloc ?_ ?_ _ | with_reducible apply Below.drew | with_reducible apply below_drewN | omega | (simp; done) | (simp; omega)))

set_option maxHeartbeats 2000000 in
theorem cut_minus (l t : List UInt8) (w : World) (hlen : l.length ≤ 281474976710656) (hm : l.head? = some 45) (Hs : Hid ((⟨l.toArray⟩ : ByteArray).extract 1 l.length = ⟨t.toArray⟩)) (ht : t.length ≤ 281474976710656) (h1 : 1 ≤ l.length) :
    Calls Tryz.prog 108 #[.string ⟨l.toArray⟩] w fun e w' => e = .returned (.tuple #[pvals (pcut1 true t), .bool (pcut1 true t).isSome]) ∧ Below w.heap.size w w' := by
  have Hm : Hid ((if l.head? = some 45 then (0 : Int) else 1) = 0) := by show _ = _; rw [if_pos hm]
  have Hp : Hid (pcut1 true t = pcut2 true (digs t) (rst t)) := rfl
  have hr := (nd_len t).2
  have hF := cutF_len (rst t)
  clear hm
  go_enter Tryz.func108, Tryz.ntmps108
  go_wp2_with fail
  refine (firstPart_any l _ hlen).mono ?_
  rintro e w' ⟨rfl, rfl⟩
  rw [Hm.out]
  go_wp2_with fail
  go_region
  rw [Hs.out]
  go_wp2_with fail
  refine (cutDigits_any t _ ht).mono ?_
  rintro e w' ⟨rfl, q, rfl⟩
  generalize digs t = g at Hp ⊢
  generalize rst t = r at Hp hr hF ⊢
  by_cases hg : g = []
  · have Hr : Hid (pcut2 true g r = none) := by subst hg; rfl
    have hg' : g.isEmpty = true := by subst hg; rfl
    clear hg
    go_wp2
    (try simp only [Exit.inBlock, Exit.then])
    refine bodyPost_ret (v := .tuple #[.agg #[.bool false, .string ⟨#[]⟩, .string ⟨#[]⟩, .bool false, .string ⟨#[]⟩], .bool false]) ?_ rfl ⟨?_, ?_⟩
    · rw [results_cell_tmp rfl]; go_simp
    · rw [Hp.out, Hr.out]; rfl
    · (repeat' (first | with_reducible assumption | with_reducible exact Below.refl _ _ | with_reducible exact Nat.le_refl _ | with_reducible refine Below.setCell ?_ ?_ _ | with_reducible refine Below.alloc ?_ ?_ _ | with_reducible apply Below.drew | with_reducible apply below_drewN | omega | (simp; done) | (simp; omega)))
  · have hg' : g.isEmpty = false := by simpa using hg
    obtain ⟨c, hc⟩ : ∃ c, g.head? = some c := by
      cases g with
      | nil => exact absurd rfl hg
      | cons x y => exact ⟨x, rfl⟩
    have hl1 : 1 ≤ g.length := by
      cases g with
      | nil => exact absurd rfl hg
      | cons x y => simp
    have gx : (⟨g.toArray⟩ : ByteArray)[0]'(by show 0 < g.toArray.size; simp; omega) = c := by
      cases g with
      | nil => exact absurd rfl hg
      | cons x y => have e : x = c := by simpa using hc
                    subst e; rfl
    clear hg
    by_cases hbad : 1 < g.length ∧ c = 48
    · have Hr : Hid (pcut2 true g r = none) := by
        show _ = _
        have : badW g = true := by unfold badW; rw [hc, hbad.2]; simp [hbad.1]
        unfold pcut2; rw [if_pos this]
      have h2 : 1 < g.length := hbad.1
      have hq : ((c.toNat : Int) == 48) = true := by rw [u8_eq48, hbad.2]; rfl
      clear hc hbad
      go_wp2
      (try simp only [Exit.inBlock, Exit.then])
      refine bodyPost_ret (v := .tuple #[.agg #[.bool false, .string ⟨#[]⟩, .string ⟨#[]⟩, .bool false, .string ⟨#[]⟩], .bool false]) ?_ rfl ⟨?_, ?_⟩
      · rw [results_cell_tmp rfl]; go_simp
      · rw [Hp.out, Hr.out]; rfl
      · (repeat' (first | with_reducible assumption | with_reducible exact Below.refl _ _ | with_reducible exact Nat.le_refl _ | with_reducible refine Below.setCell ?_ ?_ _ | with_reducible refine Below.alloc ?_ ?_ _ | with_reducible apply Below.drew | with_reducible apply below_drewN | omega | (simp; done) | (simp; omega)))
    · have Hb : Hid (¬ badW g = true) := by
        show ¬ _
        unfold badW; rw [hc, hg']; simp; intro h1 h2; exact hbad ⟨h1, h2⟩
      have hq2 : 1 < g.length → ((c.toNat : Int) == 48) = false := by
        intro h; rw [u8_eq48]; exact decide_eq_false fun e => hbad ⟨h, e⟩
      have hcases : (g.length ≤ 1) ∨ (1 < g.length ∧ ((c.toNat : Int) == 48) = false) := by
        by_cases h : 1 < g.length
        · exact .inr ⟨h, hq2 h⟩
        · exact .inl (by omega)
      clear hc hbad hq2
      have Hn : Hid (pcut2 true g r = pcut3 true g (cutF r).1 (cutF r).2.1 (cutF r).2.2) := by show _ = _; unfold pcut2; rw [if_neg Hb.out]
      rcases hcases with hle | ⟨hgt, hq⟩
      all_goals go_wp2_with fail
      all_goals refine (cutFraction_any r _ (by omega)).mono ?_
      all_goals rintro e w' ⟨rfl, q2, rfl⟩
      all_goals generalize (cutF r).1 = f at Hn ⊢
      all_goals generalize (cutF r).2.1 = r2 at Hn hF ⊢
      all_goals generalize (cutF r).2.2 = ok at Hn ⊢
      all_goals cases ok
      · have Hr : Hid (pcut2 true g r = none) := Hn
        go_wp2
        (try simp only [Exit.inBlock, Exit.then])
        refine bodyPost_ret (v := .tuple #[.agg #[.bool false, .string ⟨#[]⟩, .string ⟨#[]⟩, .bool false, .string ⟨#[]⟩], .bool false]) ?_ rfl ⟨?_, ?_⟩
        · rw [results_cell_tmp rfl]; go_simp
        · rw [Hp.out, Hr.out]; rfl
        · (repeat' (first | with_reducible assumption | with_reducible exact Below.refl _ _ | with_reducible exact Nat.le_refl _ | with_reducible refine Below.setCell ?_ ?_ _ | with_reducible refine Below.alloc ?_ ?_ _ | with_reducible apply Below.drew | with_reducible apply below_drewN | omega | (simp; done) | (simp; omega)))
      · have Hn2 : Hid (pcut3 true g f r2 true = pcut4 true g f (cutP r2).1 (cutP r2).2.1 (cutP r2).2.2.1 (cutP r2).2.2.2) := rfl
        go_wp2_with fail
        refine (cutPower_any r2 _ (by omega)).mono ?_
        rintro e w2 ⟨rfl, hB⟩
        have c00 : w2.cell? ⟨w.heap.size, 0, none⟩ = some (.bool false) := (hB.cell (by go_simp)).trans (by go_simp)
        have f00 : w2.frozen? ⟨w.heap.size, 0, none⟩ = false := (hB.frozen (by go_simp)).trans (by go_simp)
        have c01 : w2.cell? ⟨w.heap.size, 1, none⟩ = some (.string ⟨#[]⟩) := (hB.cell (by go_simp)).trans (by go_simp)
        have f01 : w2.frozen? ⟨w.heap.size, 1, none⟩ = false := (hB.frozen (by go_simp)).trans (by go_simp)
        have c02 : w2.cell? ⟨w.heap.size, 2, none⟩ = some (.string ⟨#[]⟩) := (hB.cell (by go_simp)).trans (by go_simp)
        have f02 : w2.frozen? ⟨w.heap.size, 2, none⟩ = false := (hB.frozen (by go_simp)).trans (by go_simp)
        have c03 : w2.cell? ⟨w.heap.size, 3, none⟩ = some (.bool false) := (hB.cell (by go_simp)).trans (by go_simp)
        have f03 : w2.frozen? ⟨w.heap.size, 3, none⟩ = false := (hB.frozen (by go_simp)).trans (by go_simp)
        have c04 : w2.cell? ⟨w.heap.size, 4, none⟩ = some (.string ⟨#[]⟩) := (hB.cell (by go_simp)).trans (by go_simp)
        have f04 : w2.frozen? ⟨w.heap.size, 4, none⟩ = false := (hB.frozen (by go_simp)).trans (by go_simp)
        have c10 : w2.cell? ⟨w.heap.size + 1, 0, none⟩ = some (.bool true) := (hB.cell (by go_simp)).trans (by go_simp)
        have f10 : w2.frozen? ⟨w.heap.size + 1, 0, none⟩ = false := (hB.frozen (by go_simp)).trans (by go_simp)
        have c11 : w2.cell? ⟨w.heap.size + 1, 1, none⟩ = some (.string ⟨g.toArray⟩) := (hB.cell (by go_simp)).trans (by go_simp)
        have f11 : w2.frozen? ⟨w.heap.size + 1, 1, none⟩ = false := (hB.frozen (by go_simp)).trans (by go_simp)
        have c12 : w2.cell? ⟨w.heap.size + 1, 2, none⟩ = some (.string ⟨f.toArray⟩) := (hB.cell (by go_simp)).trans (by go_simp)
        have f12 : w2.frozen? ⟨w.heap.size + 1, 2, none⟩ = false := (hB.frozen (by go_simp)).trans (by go_simp)
        have c13 : w2.cell? ⟨w.heap.size + 1, 3, none⟩ = some (.bool false) := (hB.cell (by go_simp)).trans (by go_simp)
        have f13 : w2.frozen? ⟨w.heap.size + 1, 3, none⟩ = false := (hB.frozen (by go_simp)).trans (by go_simp)
        have c14 : w2.cell? ⟨w.heap.size + 1, 4, none⟩ = some (.string ⟨#[]⟩) := (hB.cell (by go_simp)).trans (by go_simp)
        have f14 : w2.frozen? ⟨w.heap.size + 1, 4, none⟩ = false := (hB.frozen (by go_simp)).trans (by go_simp)
        have hB2 : Below w.heap.size w w2 := by
          refine Below.trans ?_ (Below.mono hB (by simp <;> omega))
          (repeat' (first | with_reducible assumption | with_reducible exact Below.refl _ _ | with_reducible exact Nat.le_refl _ | with_reducible refine Below.setCell ?_ ?_ _ | with_reducible refine Below.alloc ?_ ?_ _ | with_reducible apply Below.drew | with_reducible apply below_drewN | omega | (simp; done) | (simp; omega)))
        clear hB
        generalize (cutP r2).1 = pm at Hn2 ⊢
        generalize (cutP r2).2.1 = pd at Hn2 ⊢
        generalize (cutP r2).2.2.1 = r3 at Hn2 ⊢
        generalize (cutP r2).2.2.2 = ok2 at Hn2 ⊢
        cases ok2
        · have Hr : Hid (pcut2 true g r = none) := Hn.out.trans Hn2.out
          go_wp2
          (try simp only [Exit.inBlock, Exit.then])
          refine bodyPost_ret (v := .tuple #[.agg #[.bool false, .string ⟨#[]⟩, .string ⟨#[]⟩, .bool false, .string ⟨#[]⟩], .bool false]) ?_ rfl ⟨?_, ?_⟩
          · rw [results_cell_tmp rfl]; go_simp
          · rw [Hp.out, Hr.out]; rfl
          · (repeat' (first | with_reducible assumption | with_reducible exact Below.refl _ _ | with_reducible exact Nat.le_refl _ | with_reducible refine Below.setCell ?_ ?_ _ | with_reducible refine Below.alloc ?_ ?_ _ | with_reducible apply Below.drew | with_reducible apply below_drewN | omega | (simp; done) | (simp; omega)))
        · by_cases h3 : r3 = []
          · have Hr : Hid (pcut2 true g r = some (true, g, f, pm, pd)) := by
              show _ = _
              rw [Hn.out, Hn2.out]; unfold pcut4; rw [if_neg (by simp), if_pos h3]
            have h3' : r3.isEmpty = true := by simpa using h3
            clear h3
            go_wp2
            (try simp only [Exit.inBlock, Exit.then])
            refine bodyPost_ret (v := .tuple #[.agg #[.bool true, .string ⟨g.toArray⟩, .string ⟨f.toArray⟩, .bool pm, .string ⟨pd.toArray⟩], .bool true]) ?_ rfl ⟨?_, ?_⟩
            · rw [results_cell_tmp rfl]; go_simp
            · rw [Hp.out, Hr.out]; rfl
            · (repeat' (first | with_reducible assumption | with_reducible exact Below.refl _ _ | with_reducible exact Nat.le_refl _ | with_reducible refine Below.setCell ?_ ?_ _ | with_reducible refine Below.alloc ?_ ?_ _ | with_reducible apply Below.drew | with_reducible apply below_drewN | omega | (simp; done) | (simp; omega)))
          · have Hr : Hid (pcut2 true g r = none) := by
              show _ = _
              rw [Hn.out, Hn2.out]; unfold pcut4; rw [if_neg (by simp), if_neg h3]
            have h3' : r3.isEmpty = false := by simpa using h3
            clear h3
            go_wp2
            (try simp only [Exit.inBlock, Exit.then])
            refine bodyPost_ret (v := .tuple #[.agg #[.bool false, .string ⟨#[]⟩, .string ⟨#[]⟩, .bool false, .string ⟨#[]⟩], .bool false]) ?_ rfl ⟨?_, ?_⟩
            · rw [results_cell_tmp rfl]; go_simp
            · rw [Hp.out, Hr.out]; rfl
            · (repeat' (first | with_reducible assumption | with_reducible exact Below.refl _ _ | with_reducible exact Nat.le_refl _ | with_reducible refine Below.setCell ?_ ?_ _ | with_reducible refine Below.alloc ?_ ?_ _ | with_reducible apply Below.drew | with_reducible apply below_drewN | omega | (simp; done) | (simp; omega)))
      · have Hr : Hid (pcut2 true g r = none) := Hn
        go_wp2
        (try simp only [Exit.inBlock, Exit.then])
        refine bodyPost_ret (v := .tuple #[.agg #[.bool false, .string ⟨#[]⟩, .string ⟨#[]⟩, .bool false, .string ⟨#[]⟩], .bool false]) ?_ rfl ⟨?_, ?_⟩
        · rw [results_cell_tmp rfl]; go_simp
        · rw [Hp.out, Hr.out]; rfl
        · (repeat' (first | with_reducible assumption | with_reducible exact Below.refl _ _ | with_reducible exact Nat.le_refl _ | with_reducible refine Below.setCell ?_ ?_ _ | with_reducible refine Below.alloc ?_ ?_ _ | with_reducible apply Below.drew | with_reducible apply below_drewN | omega | (simp; done) | (simp; omega)))
      · have Hn2 : Hid (pcut3 true g f r2 true = pcut4 true g f (cutP r2).1 (cutP r2).2.1 (cutP r2).2.2.1 (cutP r2).2.2.2) := rfl
        go_wp2_with fail
        refine (cutPower_any r2 _ (by omega)).mono ?_
        rintro e w2 ⟨rfl, hB⟩
        have c00 : w2.cell? ⟨w.heap.size, 0, none⟩ = some (.bool false) := (hB.cell (by go_simp)).trans (by go_simp)
        have f00 : w2.frozen? ⟨w.heap.size, 0, none⟩ = false := (hB.frozen (by go_simp)).trans (by go_simp)
        have c01 : w2.cell? ⟨w.heap.size, 1, none⟩ = some (.string ⟨#[]⟩) := (hB.cell (by go_simp)).trans (by go_simp)
        have f01 : w2.frozen? ⟨w.heap.size, 1, none⟩ = false := (hB.frozen (by go_simp)).trans (by go_simp)
        have c02 : w2.cell? ⟨w.heap.size, 2, none⟩ = some (.string ⟨#[]⟩) := (hB.cell (by go_simp)).trans (by go_simp)
        have f02 : w2.frozen? ⟨w.heap.size, 2, none⟩ = false := (hB.frozen (by go_simp)).trans (by go_simp)
        have c03 : w2.cell? ⟨w.heap.size, 3, none⟩ = some (.bool false) := (hB.cell (by go_simp)).trans (by go_simp)
        have f03 : w2.frozen? ⟨w.heap.size, 3, none⟩ = false := (hB.frozen (by go_simp)).trans (by go_simp)
        have c04 : w2.cell? ⟨w.heap.size, 4, none⟩ = some (.string ⟨#[]⟩) := (hB.cell (by go_simp)).trans (by go_simp)
        have f04 : w2.frozen? ⟨w.heap.size, 4, none⟩ = false := (hB.frozen (by go_simp)).trans (by go_simp)
        have c10 : w2.cell? ⟨w.heap.size + 1, 0, none⟩ = some (.bool true) := (hB.cell (by go_simp)).trans (by go_simp)
        have f10 : w2.frozen? ⟨w.heap.size + 1, 0, none⟩ = false := (hB.frozen (by go_simp)).trans (by go_simp)
        have c11 : w2.cell? ⟨w.heap.size + 1, 1, none⟩ = some (.string ⟨g.toArray⟩) := (hB.cell (by go_simp)).trans (by go_simp)
        have f11 : w2.frozen? ⟨w.heap.size + 1, 1, none⟩ = false := (hB.frozen (by go_simp)).trans (by go_simp)
        have c12 : w2.cell? ⟨w.heap.size + 1, 2, none⟩ = some (.string ⟨f.toArray⟩) := (hB.cell (by go_simp)).trans (by go_simp)
        have f12 : w2.frozen? ⟨w.heap.size + 1, 2, none⟩ = false := (hB.frozen (by go_simp)).trans (by go_simp)
        have c13 : w2.cell? ⟨w.heap.size + 1, 3, none⟩ = some (.bool false) := (hB.cell (by go_simp)).trans (by go_simp)
        have f13 : w2.frozen? ⟨w.heap.size + 1, 3, none⟩ = false := (hB.frozen (by go_simp)).trans (by go_simp)
        have c14 : w2.cell? ⟨w.heap.size + 1, 4, none⟩ = some (.string ⟨#[]⟩) := (hB.cell (by go_simp)).trans (by go_simp)
        have f14 : w2.frozen? ⟨w.heap.size + 1, 4, none⟩ = false := (hB.frozen (by go_simp)).trans (by go_simp)
        have hB2 : Below w.heap.size w w2 := by
          refine Below.trans ?_ (Below.mono hB (by simp <;> omega))
          (repeat' (first | with_reducible assumption | with_reducible exact Below.refl _ _ | with_reducible exact Nat.le_refl _ | with_reducible refine Below.setCell ?_ ?_ _ | with_reducible refine Below.alloc ?_ ?_ _ | with_reducible apply Below.drew | with_reducible apply below_drewN | omega | (simp; done) | (simp; omega)))
        clear hB
        generalize (cutP r2).1 = pm at Hn2 ⊢
        generalize (cutP r2).2.1 = pd at Hn2 ⊢
        generalize (cutP r2).2.2.1 = r3 at Hn2 ⊢
        generalize (cutP r2).2.2.2 = ok2 at Hn2 ⊢
        cases ok2
        · have Hr : Hid (pcut2 true g r = none) := Hn.out.trans Hn2.out
          go_wp2
          (try simp only [Exit.inBlock, Exit.then])
          refine bodyPost_ret (v := .tuple #[.agg #[.bool false, .string ⟨#[]⟩, .string ⟨#[]⟩, .bool false, .string ⟨#[]⟩], .bool false]) ?_ rfl ⟨?_, ?_⟩
          · rw [results_cell_tmp rfl]; go_simp
          · rw [Hp.out, Hr.out]; rfl
          · (repeat' (first | with_reducible assumption | with_reducible exact Below.refl _ _ | with_reducible exact Nat.le_refl _ | with_reducible refine Below.setCell ?_ ?_ _ | with_reducible refine Below.alloc ?_ ?_ _ | with_reducible apply Below.drew | with_reducible apply below_drewN | omega | (simp; done) | (simp; omega)))
        · by_cases h3 : r3 = []
          · have Hr : Hid (pcut2 true g r = some (true, g, f, pm, pd)) := by
              show _ = _
              rw [Hn.out, Hn2.out]; unfold pcut4; rw [if_neg (by simp), if_pos h3]
            have h3' : r3.isEmpty = true := by simpa using h3
            clear h3
            go_wp2
            (try simp only [Exit.inBlock, Exit.then])
            refine bodyPost_ret (v := .tuple #[.agg #[.bool true, .string ⟨g.toArray⟩, .string ⟨f.toArray⟩, .bool pm, .string ⟨pd.toArray⟩], .bool true]) ?_ rfl ⟨?_, ?_⟩
            · rw [results_cell_tmp rfl]; go_simp
            · rw [Hp.out, Hr.out]; rfl
            · (repeat' (first | with_reducible assumption | with_reducible exact Below.refl _ _ | with_reducible exact Nat.le_refl _ | with_reducible refine Below.setCell ?_ ?_ _ | with_reducible refine Below.alloc ?_ ?_ _ | with_reducible apply Below.drew | with_reducible apply below_drewN | omega | (simp; done) | (simp; omega)))
          · have Hr : Hid (pcut2 true g r = none) := by
              show _ = _
              rw [Hn.out, Hn2.out]; unfold pcut4; rw [if_neg (by simp), if_neg h3]
            have h3' : r3.isEmpty = false := by simpa using h3
            clear h3
            go_wp2
            (try simp only [Exit.inBlock, Exit.then])
            refine bodyPost_ret (v := .tuple #[.agg #[.bool false, .string ⟨#[]⟩, .string ⟨#[]⟩, .bool false, .string ⟨#[]⟩], .bool false]) ?_ rfl ⟨?_, ?_⟩
            · rw [results_cell_tmp rfl]; go_simp
            · rw [Hp.out, Hr.out]; rfl
            · (repeat' (first | with_reducible assumption | with_reducible exact Below.refl _ _ | with_reducible exact Nat.le_refl _ | with_reducible refine Below.setCell ?_ ?_ _ | with_reducible refine Below.alloc ?_ ?_ _ | with_reducible apply Below.drew | with_reducible apply below_drewN | omega | (simp; done) | (simp; omega)))

theorem cutL_len (l : List UInt8) : (cutL l).length ≤ l.length := by unfold cutL; split <;> simp

theorem cut_any (l : List UInt8) (w : World) (hlen : l.length ≤ 281474976710656) :
    Calls Tryz.prog 108 #[.string ⟨l.toArray⟩] w fun e w' => e = .returned (.tuple #[pvals (pcut l), .bool (pcut l).isSome]) ∧ Below w.heap.size w w' := by
  by_cases h : l.head? = some 45
  · have e : pcut l = pcut1 true l.tail := by unfold pcut cutL; rw [if_pos h, decide_eq_true h]
    rw [e]
    have h1 : 1 ≤ l.length := by
      cases l with
      | nil => simp at h
      | cons x r => simp
    exact cut_minus l l.tail w hlen h (suf1 l) (by rw [List.length_tail]; omega) h1
  · have e : pcut l = pcut1 false l := by unfold pcut cutL; rw [if_neg h, decide_eq_false h]
    rw [e]
    exact cut_plus l w hlen h

end Go.Proofs.YtcdcfgkgighmhaaGreatDoor.Dec