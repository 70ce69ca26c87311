import Derived.Test.YtbgooffhikchmaaDoorShRefA
import Derived.Test.YtbgooffhikchmaaDoorShRefF
namespace Go.Proofs.YtbgooffhikchmaaDoor.Sha
open Go.RowKit
set_option maxRecDepth 100000

theorem rsize_any (h : Int) (w : World) : Calls Tryd.prog 14 #[.int .i64 h] w fun e w' => e = .returned (.int .i64 (siz h)) ∧ w' = w := by
  by_cases h1 : h = 1
  · subst h1
    go_enter Tryd.func14, Tryd.ntmps14
    go_wp2
    go_ret
    exact ⟨rfl, rfl⟩
  by_cases h2 : h = 2
  · subst h2
    go_enter Tryd.func14, Tryd.ntmps14
    go_wp2
    go_ret
    exact ⟨rfl, rfl⟩
  by_cases h3 : h = 3
  · subst h3
    go_enter Tryd.func14, Tryd.ntmps14
    go_wp2
    go_ret
    exact ⟨rfl, rfl⟩
  have hb : Hid (siz h = 0) := by show _ = _; unfold siz; rw [if_neg h1, if_neg h2, if_neg h3]
  go_enter Tryd.func14, Tryd.ntmps14
  go_wp2
  go_ret
  rw [hb.out]
  exact ⟨rfl, rfl⟩
/-- Parts that were copied with room behind them: where they lie, and their bytes. -/
def rV (r : Nat × List UInt8) : Value := .slice (some ⟨r.1, 0, none⟩) r.2.length (r.2.length + 9)
def RM (w : World) (B0 : Nat) (rs : List (Nat × List UInt8)) : Prop := (rs.map (·.1)).Nodup ∧ ∀ r ∈ rs, B0 ≤ r.1 ∧ Cl w r.1 ((r.2 ++ List.replicate 9 165).map B)
theorem RM.below {w w' : World} {B0 n : Nat} {rs : List (Nat × List UInt8)} (h : RM w B0 rs) (hb : Below n w w') (hn : w.heap.size ≤ n) : RM w' B0 rs :=
  ⟨h.1, fun r hr => ⟨(h.2 r hr).1, (h.2 r hr).2.below hb (by have := (h.2 r hr).2.lt; omega)⟩⟩

/-- A row of slices is no list of bytes. -/
theorem own_ne {w : World} {base n g : Nat} {v : Value} {rs : List (Nat × List UInt8)} {l : List UInt8} (h : w.ownsRow base 23 1 v n (rs.map rV)) (hc : Cl w g ((l ++ List.replicate 9 165).map B)) : v.ownBlock ≠ some g ∨ rs = [] := by
  rcases h.2 with ⟨rfl, hn⟩ | ⟨g', cap, cur, rfl, hg, hh, hn, hm, hs, ht⟩
  · exact .inl (fun e => by cases e)
  · by_cases hr : rs = []
    · exact .inr hr
    · refine .inl fun e => ?_
      have e2 : g' = g := by cases e; rfl
      subst e2
      have hlen : 0 < rs.length := List.length_pos_iff.2 hr
      have h1 := h.cells (g := g') rfl 0 (rV rs[0]) (by simp [hlen])
      have h2 := hc.cell 0 (by simp)
      rw [Addr.add_mid] at h1
      rw [h2] at h1
      have h3 := Option.some.inj h1
      rw [List.getElem_map] at h3
      unfold rV B at h3
      cases h3

end Go.Proofs.YtbgooffhikchmaaDoor.Sha