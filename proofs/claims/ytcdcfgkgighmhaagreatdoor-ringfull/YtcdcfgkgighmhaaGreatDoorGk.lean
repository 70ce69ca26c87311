import Derived.Test.YtcdcfgkgighmhaaGreatDoorGi
namespace Go.Proofs.YtcdcfgkgighmhaaGreatDoor
open Go.RowKit Go.MuLone
set_option maxRecDepth 100000

theorem delete_all (v : Value) (B0 : Nat) (L : List Ks) (i : Nat) (w : World) (h0 : Os w B0 v L) (hi : i < L.length) (hL : L.length ≤ 1000) :
    Calls Tryz.prog 19 #[v, .int .i64 (i : Int), .int .i64 ((i : Int) + 1)] w fun e w' => ∃ v', e = .returned v' ∧ Os w' B0 v' (L.eraseIdx i) ∧ Chf (fun k => v.ownBlock = some k) w w' := by
  obtain ⟨ao, cap, rfl, hr⟩ := h0.rd
  rcases hr with rfl | ⟨g, rfl, _, _, _⟩
  · simp at hi
  · have hw : ∀ {w'}, Chf (fun k => k = g) w w' → Chf (fun k => (Value.slice (some ⟨g, 0, none⟩) L.length cap).ownBlock = some k) w w' := fun c => ⟨c.os, c.tape, c.output, c.size, fun k hk hn => c.block k hk (fun e => hn (e ▸ rfl))⟩
    by_cases hc : cap = i + 1
    · subst hc
      obtain ⟨_, _, _, _, _, hnc, _⟩ := own_cells h0
      have hn : L.length = i + 1 := by omega
      rw [hn] at h0 hw ⊢
      exact (delete_last g B0 L i w h0 hn hL).mono (by rintro e w' ⟨rfl, h1, h2⟩; exact ⟨_, rfl, h1, hw h2⟩)
    · exact (delete_any g cap B0 L i w h0 hi hL hc).mono (by rintro e w' ⟨rfl, h1, h2⟩; exact ⟨_, rfl, h1, hw h2⟩)

end Go.Proofs.YtcdcfgkgighmhaaGreatDoor
