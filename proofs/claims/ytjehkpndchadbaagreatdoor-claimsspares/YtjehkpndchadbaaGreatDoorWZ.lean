import Derived.Test.YtjehkpndchadbaaGreatDoorVE
import Derived.Test.YtjehkpndchadbaaGreatDoorUZ
namespace Go.Proofs.YtjehkpndchadbaaGreatDoor
open Go.RowKit Go.Shelf

theorem GL.up {B B' : Nat} {w : World} (h : GL B w) (hb : B ≤ B') : GL B' w := ⟨Nat.le_trans h.hi hb, h.u8, h.er⟩

def aliveT : List UInt8 := [32, 123, 34, 97, 34, 58, 91, 49, 44, 34, 92, 117, 48, 48, 101, 57, 34, 93, 125, 32]
def aliveV : List Nd := [⟨7, [], [], false, 0, 1⟩, ⟨6, [97], [], false, 0, 2⟩, ⟨4, [], [49], true, 1, 0⟩, ⟨5, [], [195, 169], false, 0, 0⟩]
end Go.Proofs.YtjehkpndchadbaaGreatDoor

namespace Go.Proofs.YtjehkpndchadbaaGreatDoor
open Go.RowKit Go.Shelf

theorem quoF_len {t : List UInt8} : ∀ (n p : Nat) (acc l : List UInt8) (q : Nat), acc.length ≤ 4 * p → quoF t n p acc = .ok l q → l.length ≤ 4 * t.length
  | 0, p, acc, l, q, h, e => by unfold quoF at e; cases e
  | n + 1, p, acc, l, q, h, e => by
    unfold quoF at e
    split at e
    · rename_i hk
      have := tk_lt hk
      cases e
      omega
    · split at e
      · cases e
      · rename_i r q1 e1
        have h1 := chrF_ok e1
        have h2 := encodeRune_len r
        exact quoF_len n q1 _ l q (by rw [List.length_append]; omega) e

/-- How long what is read may be. -/
def BD (m : Nat) (s : JS) : Prop := (∀ n ∈ s.nodes, n.text.length ≤ m ∧ n.key.length ≤ m) ∧ s.key.length ≤ m
theorem end_bd {m : Nat} {s : JS} (h : BD m s) : BD m (endF s) := by unfold BD; rw [endF_nodes, endF_key]; exact h
theorem add_bd {m : Nat} {s : JS} (n : Nd) (h : BD m s) (hn : n.text.length ≤ m) : BD m (addF n s) := by
  unfold addF
  refine end_bd ⟨?_, Nat.zero_le _⟩
  have hall : ∀ x ∈ s.nodes ++ [{ n with key := s.key }], x.text.length ≤ m ∧ x.key.length ≤ m := fun x hx => by
    rcases List.mem_append.1 hx with hx | hx
    · exact h.1 x hx
    · rw [List.mem_singleton.1 hx]
      exact ⟨hn, h.2⟩
  intro x hx
  simp only at hx
  split at hx
  · exact hall x hx
  · rcases mem_kidUp hx with hx | ⟨y, hy, rfl⟩
    · exact hall x hx
    · exact hall y hy
theorem begin_bd {m k aw : Nat} {s s' : JS} (h : BD m s) (e : beginF k aw s = .go s') : BD m s' := by
  unfold beginF at e
  split at e
  · cases e
  · cases e
    exact add_bd (s := { s with pos := s.pos + 1 }) (nd0 k) h (Nat.zero_le _)
theorem lit_bd {m : Nat} {t w : List UInt8} {k : Int} {s s' : JS} (h : BD m s) (e : litS t w k s = .go s') : BD m s' := by
  unfold litS at e
  split at e
  · rename_i p _
    cases e
    exact add_bd (s := { s with pos := p }) (nd0 k) h (Nat.zero_le _)
  · cases e
theorem value_bd {t : List UInt8} {s s' : JS} (h : BD (4 * t.length) s) (e : valueF t s = .go s') : BD (4 * t.length) s' := by
  unfold valueF at e
  simp only at e
  split at e
  · exact begin_bd h e
  · split at e
    · exact begin_bd h e
    · split at e
      · split at e
        · rename_i l p e1
          cases e
          exact add_bd (s := { s with pos := p }) _ h (quoF_len _ _ _ _ _ (Nat.zero_le _) e1)
        · cases e
      · split at e
        · exact lit_bd h e
        · split at e
          · exact lit_bd h e
          · split at e
            · exact lit_bd h e
            · split at e
              · rename_i u p e1
                cases e
                refine add_bd (s := { s with pos := p }) _ h ?_
                have := sgl_le t s.pos p
                show (sgl t s.pos p).length ≤ _
                omega
              · cases e
theorem name_bd {t : List UInt8} {s s' : JS} (h : BD (4 * t.length) s) (e : nameF t s = .go s') : BD (4 * t.length) s' := by
  unfold nameF at e
  split at e
  · cases e
  · split at e
    · cases e
    · rename_i l p e1
      split at e
      · cases e
      · cases e
        exact ⟨h.1, quoF_len _ _ _ _ _ (Nat.zero_le _) e1⟩
theorem mark_bd {m : Nat} {t : List UInt8} {c : UInt8} {aw : Nat} {s s' : JS} (h : BD m s) (e : markF t c aw s = .go s') : BD m s' := by
  unfold markF at e
  split at e
  · cases e; exact h
  · cases e
theorem word_bd {t : List UInt8} {s s' : JS} (h : BD (4 * t.length) s) (e : wordF t s = .go s') : BD (4 * t.length) s' := by
  have hcl : BD (4 * t.length) (clsF s) := end_bd (s := { s with pos := s.pos + 1, opn := s.opn.dropLast }) h
  unfold wordF at e
  split at e
  · split at e
    · cases e; exact hcl
    · exact value_bd h e
  · split at e
    · exact value_bd h e
    · split at e
      · split at e
        · cases e; exact hcl
        · exact name_bd h e
      · split at e
        · exact name_bd h e
        · split at e
          · exact mark_bd h e
          · split at e
            · split at e
              · cases e; exact hcl
              · exact mark_bd h e
            · split at e
              · split at e
                · cases e; exact hcl
                · exact mark_bd h e
              · cases e
theorem run_bd {t : List UInt8} : ∀ (n : Nat) (s s' : JS), BD (4 * t.length) s → OKs s → s.pos ≤ t.length → runF t n s = .go s' → BD (4 * t.length) s' ∧ s'.nodes.length ≤ t.length
  | 0, s, s', h, ho, hp, e => by unfold runF at e; cases e; exact ⟨h, Nat.le_trans ho.cnt hp⟩
  | n + 1, s, s', h, ho, hp, e => by
    unfold runF at e
    simp only at e
    have hle := skp_le t blanksS s.pos hp
    have hge := skp_ge t blanksS s.pos
    split at e
    · split at e
      · cases e
        exact ⟨h, Nat.le_trans ho.cnt hp⟩
      · cases e
    · rename_i hne
      split at e
      · cases e
      · rename_i s1 e1
        have hp1 := wordF_pos (s := { s with pos := skp t blanksS s.pos }) (show skp t blanksS s.pos < t.length by omega) e1
        have ho1 := wordF_ok (s := { s with pos := skp t blanksS s.pos }) (show skp t blanksS s.pos < t.length by omega) (ho.at hge) e1
        exact run_bd n s1 s' (word_bd (s := { s with pos := skp t blanksS s.pos }) h e1) ho1 hp1.2 e

theorem parse_bd (t : List UInt8) : (parseF t).1.length ≤ 262144 ∧ TB (parseF t).1 := by
  unfold parseF
  split
  · exact ⟨Nat.zero_le _, fun n hn => by simp at hn⟩
  · rename_i hl
    split
    · exact ⟨Nat.zero_le _, fun n hn => by simp at hn⟩
    · rename_i s e
      have h := run_bd _ start s ⟨fun n hn => by simp [start] at hn, Nat.zero_le _⟩ start_ok (Nat.zero_le _) e
      refine ⟨by show s.nodes.length ≤ _; omega, fun n hn => ?_⟩
      have := h.1.1 n hn
      omega

set_option maxRecDepth 100000 in
set_option maxHeartbeats 4000000 in
theorem parse_large (t : List UInt8) (w : World) (hl : 262144 < t.length) :
    Calls Tryz.prog 11 #[.string ⟨t.toArray⟩] w fun e w' => Below w.heap.size w w' ∧ ∃ v, e = .returned (.tuple #[v, .int .i64 ((parseF t).2.1 : Int), .int .i64 ((parseF t).2.2 : Int)]) ∧ NO w.heap.size w' v (parseF t).1 := by
  have HP : Hid (parseF t = ([], 10, 0)) := parseF_large hl
  have hlb : decide ((t.length : Int) > 262144) = true := decide_eq_true (by omega)
  clear hl
  go_enter Tryz.func11, Tryz.ntmps11
  go_wp2
  go_ret3
  rw [HP.out]
  exact ⟨Below.refl _ _, _, rfl, World.ownsRow_nil _ _ _ _⟩
theorem parse_all (t : List UInt8) (w : World) (hG : GL w.heap.size w) :
    Calls Tryz.prog 11 #[.string ⟨t.toArray⟩] w fun e w' => Below w.heap.size w w' ∧ ∃ v, e = .returned (.tuple #[v, .int .i64 ((parseF t).2.1 : Int), .int .i64 ((parseF t).2.2 : Int)]) ∧ NO w.heap.size w' v (parseF t).1 := by
  by_cases h : t.length ≤ 1000000000
  · exact parse_any t w hG h
  · exact parse_large t w (by omega)

/-- What the law asks at a place. -/
structure At (v : List Nd) (i : Nat) : Prop where
  ch : Ch v (i + 1) (kidsF v (i : Int)) (bhN v i)
  ln : ((kidsF v (i : Int)).length : Int) = (v.getD i (nd0 0)).kids
  me : (v.getD i (nd0 0)).kind = 7 → ∀ j, j < (kidsF v (i : Int)).length → memF v (i : Int) (v.getD ((kidsF v (i : Int)).getD j 0) (nd0 0)).key = ((kidsF v (i : Int)).getD j 0 : Nat)
  no : (v.getD i (nd0 0)).kind ≠ 7 → memF v (i : Int) [] = -1
  sh : shapedF ({ v.getD i (nd0 0) with key := [] } :: (v.drop (i + 1)).take (bhN v i - (i + 1))) = true

end Go.Proofs.YtjehkpndchadbaaGreatDoor
