import Derived.Test.YtidmjojlhcgedaaTa
import Derived.Deep.MidRow
namespace Go.Proofs.Ytidmjojlhcgedaa
open Go.RowKit Go.Maps
set_option maxRecDepth 100000

/-- What the document reads of one name: it, the place behind, whether it can be. -/
def entF (l : List UInt8) (p : Nat) (clk : Int) : En × Nat × Bool :=
  match numF l p 2 with
  | none => (([], 0), p, false)
  | some n => if 1024 < n then (([], 0), p, false) else if l.length < p + 2 + n then (([], 0), p + 2, false) else
    match numF l (p + 2 + n) 8 with
    | none => ((pieceF l (p + 2) n, 0), p + 2 + n + 8, false)
    | some e => ((pieceF l (p + 2) n, s64 e), p + 2 + n + 8, decide (clk ≤ s64 e))

theorem rget_any (ao : Option Addr) (cap : Nat) (l : List UInt8) (p n : Nat) (w : World) (hr : Rd w ao l) (hl : l.length ≤ 1000000000) (hp : p ≤ 1000000000) (hn : n ≤ 8) :
    Calls Try.prog 39 #[.slice ao l.length cap, .int .i64 p, .int .i64 n] w fun e w' => e = .returned (.tuple #[.int .u64 ((numF l p n).getD 0 : Nat), .bool (numF l p n).isSome]) ∧ w' = w := by
  by_cases h : p + n ≤ l.length
  · rw [numF_some h]
    exact rget_ok ao cap l p n w hr hl h hn
  · rw [numF_none h]
    exact rget_no ao cap l p n w hl hp (by omega) hn

theorem results_ent {fn : Func} {p u v : Tmp} (h : fn.results = #[.cell p 78, .tmp u, .tmp v]) (tmps : Array Value) (w : World) (b : Nat) (cs : List Value) (hcs : cs.length = 2) (hp : tmps.getD p undef = .pointer (some ⟨b, 0, none⟩)) (hb : Bl 78 w b cs) :
    (results fn tmps).run Try.prog w = .ok (.tuple #[.agg cs.toArray, tmps.getD u undef, tmps.getD v undef]) w := by
  have hr : (loadVar 78 ⟨b, 0, none⟩).run Try.prog w = .ok (.agg cs.toArray) w := by
    refine run_loadVar_mid w b 0 78 cs _ ?_ Try.underlying78 rfl (by rw [hcs]; kernel_rfl)
    intro j v hv
    obtain ⟨hj, e⟩ := List.getElem?_eq_some_iff.1 hv
    rw [Nat.zero_add, ← e]
    exact hb.cell j hj
  simp only [Array.getD_eq_getD_getElem?] at hp
  unfold results
  rw [h]
  simp [hp, asAddr, hr, Result.andThen]

set_option maxHeartbeats 4000000 in
theorem rentry_any (ao : Option Addr) (cap : Nat) (l : List UInt8) (p : Nat) (clk : Int) (w : World) (hr0 : Rd w ao l) (hl : l.length ≤ 100000000) (hp : p ≤ 100000000) (hcap : l.length ≤ cap) :
    Calls Try.prog 40 #[.slice ao l.length cap, .int .i64 p, .int .i64 clk] w fun e w' => e = .returned (.tuple #[.agg #[.string ⟨(entF l p clk).1.1.toArray⟩, .int .i64 (entF l p clk).1.2], .int .i64 (entF l p clk).2.1, .bool (entF l p clk).2.2]) ∧ Below w.heap.size w w' := by
  have hr : Hid (Rd w ao l) := hr0
  have G1 : Hid (∀ w', Below w.heap.size w w' → Calls Try.prog 39 #[.slice ao l.length cap, .int .i64 p, .int .i64 (2 : Nat)] w' fun e wx => e = .returned (.tuple #[.int .u64 ((numF l p 2).getD 0 : Nat), .bool (numF l p 2).isSome]) ∧ wx = w') := fun w' hb => rget_any ao cap l p 2 w' (hr.out.below hb (Nat.le_refl _)) (by omega) (by omega) (by omega)
  clear hr0
  cases hn : numF l p 2 with
  | none =>
    have HE : Hid (entF l p clk = (([], 0), p, false)) := by show _ = _; unfold entF; rw [hn]
    rw [hn] at G1
    generalize entF l p clk = E at HE ⊢
    clear hn hr
    go_enter Try.func40, Try.ntmps40
    go_wp2_with fail
    refine (G1.out _ (alloc_below _ _)).mono ?_
    rintro e w1 ⟨rfl, rfl⟩
    go_wp2_with fail
    (try simp only [Exit.inBlock, Exit.then])
    refine bodyPost_ret (results_ent rfl _ _ w.heap.size [.string ⟨#[]⟩, .int .i64 0] rfl rfl (alloc_bl w _ _)) rfl ?_
    rw [HE.out]
    exact ⟨rfl, alloc_below _ _⟩
  | some n =>
    rw [hn] at G1
    have hnb : n < 65536 := by
      unfold numF at hn
      split at hn
      · rename_i h1
        have := be_lt (pieceF l p 2)
        rw [pieceF_length h1] at this
        have e : be (pieceF l p 2) = n := by simpa using hn
        omega
      · cases hn
    have hp2 : p + 2 ≤ l.length := by
      unfold numF at hn
      split at hn
      · assumption
      · cases hn
    by_cases b0 : 1024 < n
    · have HE : Hid (entF l p clk = (([], 0), p, false)) := by show _ = _; unfold entF; rw [hn]; dsimp only; rw [if_pos b0]
      have q : decide ((n : Int) > 1024) = true := by simp; omega
      generalize entF l p clk = E at HE ⊢
      clear hn hr
      go_enter Try.func40, Try.ntmps40
      go_wp2_with fail
      refine (G1.out _ (alloc_below _ _)).mono ?_
      rintro e w1 ⟨rfl, rfl⟩
      go_wp2_with fail
      (try simp only [Exit.inBlock, Exit.then])
      refine bodyPost_ret (results_ent rfl _ _ w.heap.size [.string ⟨#[]⟩, .int .i64 0] rfl rfl (alloc_bl w _ _)) rfl ?_
      rw [HE.out]
      exact ⟨rfl, alloc_below _ _⟩
    have q : decide ((n : Int) > 1024) = false := by simp; omega
    have hwr : IntKind.u64.wrap ((l.length : Int) - ((p : Int) + 2)) = (l.length : Int) - ((p : Int) + 2) := by rw [IntKind.wrap_u64]; omega
    by_cases b1 : l.length < p + 2 + n
    · have HE : Hid (entF l p clk = (([], 0), p + 2, false)) := by show _ = _; unfold entF; rw [hn]; dsimp only; rw [if_neg b0, if_pos b1]
      have q2 : decide ((l.length : Int) - ((p : Int) + 2) < (n : Int)) = true := by simp; omega
      generalize entF l p clk = E at HE ⊢
      clear hn hr
      go_enter Try.func40, Try.ntmps40
      go_wp2_with fail
      refine (G1.out _ (alloc_below _ _)).mono ?_
      rintro e w1 ⟨rfl, rfl⟩
      go_wp2_with fail
      (try simp only [Exit.inBlock, Exit.then])
      refine bodyPost_ret (results_ent rfl _ _ w.heap.size [.string ⟨#[]⟩, .int .i64 0] rfl rfl (alloc_bl w _ _)) rfl ?_
      rw [HE.out]
      exact ⟨by go_num, alloc_below _ _⟩
    have q2 : decide ((l.length : Int) - ((p : Int) + 2) < (n : Int)) = false := by simp; omega
    have hs2 : p + 2 + n ≤ l.length := by omega
    obtain ⟨g, off, rfl, hgl, _⟩ := hr.out.cell (by omega)
    have hrp : Hid (∀ w', Below w.heap.size w w' → Rd w' (some ⟨g, off + (p + 2), none⟩) (pieceF l (p + 2) n)) := fun w' hb => by
      refine .inr ⟨g, off + (p + 2), rfl, Nat.lt_of_lt_of_le hgl hb.size, fun j hj => ?_⟩
      rw [pieceF_length hs2] at hj
      obtain ⟨g', off', e, _, hc⟩ := (hr.out.below hb (Nat.le_refl _)).cell (by omega)
      cases e
      have := hc (p + 2 + j) (by omega)
      rw [show off + (p + 2) + j = off + (p + 2 + j) by omega, this, getD_eq _ _ (by omega), getD_eq _ _ (by rw [pieceF_length hs2]; omega)]
      simp only [pieceF, List.getElem_take, List.getElem_drop]
      rfl
    have hpl := pieceF_length hs2
    have hcs : Hid (∀ w', Below w.heap.size w w' → ∀ c, (convert 30 9 (.slice (some ⟨g, off + (p + 2), none⟩) n c)).run Try.prog w' = .ok (.string ⟨(pieceF l (p + 2) n).toArray⟩) w') := fun w' hb c => by
      have := conv_str (c := c) (hrp.out w' hb)
      rwa [hpl] at this
    have G2 : Hid (∀ w', Below w.heap.size w w' → Calls Try.prog 39 #[.slice (some ⟨g, off, none⟩) l.length cap, .int .i64 ((p : Int) + 2 + (n : Int)), .int .i64 (8 : Nat)] w' fun e wx => e = .returned (.tuple #[.int .u64 ((numF l (p + 2 + n) 8).getD 0 : Nat), .bool (numF l (p + 2 + n) 8).isSome]) ∧ wx = w') := fun w' hb => by
      have := rget_any (some ⟨g, off, none⟩) cap l (p + 2 + n) 8 w' (hr.out.below hb (Nat.le_refl _)) (by omega) (by omega) (by omega)
      rw [show ((p + 2 + n : Nat) : Int) = (p : Int) + 2 + (n : Int) by omega] at this
      exact this
    have hcs : Hid ((convert 30 9 (.slice (some ⟨g, off + (p + 2), none⟩) n (cap - (p + 2)))).run Try.prog (w.alloc (.cells #[.string ⟨#[]⟩, .int .i64 0] 78)) = .ok (.string ⟨(pieceF l (p + 2) n).toArray⟩) (w.alloc (.cells #[.string ⟨#[]⟩, .int .i64 0] 78))) := hcs.out _ (alloc_below w (.cells #[.string ⟨#[]⟩, .int .i64 0] 78)) _
    have hpc0 : Hid (n = 0 → pieceF l (p + 2) n = []) := fun h => by rw [h]; simp [pieceF]
    cases h8 : numF l (p + 2 + n) 8 with
    | none =>
      have HE : Hid (entF l p clk = ((pieceF l (p + 2) n, 0), p + 2 + n + 8, false)) := by show _ = _; unfold entF; rw [hn]; dsimp only; rw [if_neg b0, if_neg b1, h8]
      rw [h8] at G2
      generalize entF l p clk = E at HE ⊢
      generalize pieceF l (p + 2) n = pc at hcs hpc0 HE
      clear hrp hpl hn hr h8
      by_cases hce : cap = p + 2
      · subst hce
        have hn0 : n = 0 := by omega
        subst hn0
        have hcs1 : (convert 30 9 (.slice (some ⟨g, off, none⟩) 0 0)).run Try.prog (w.alloc (.cells #[.string ⟨#[]⟩, .int .i64 0] 78)) = .ok (.string ⟨pc.toArray⟩) (w.alloc (.cells #[.string ⟨#[]⟩, .int .i64 0] 78)) := by
          have := conv_str (w := w.alloc (.cells #[.string ⟨#[]⟩, .int .i64 0] 78)) (ao := some ⟨g, off, none⟩) (c := 0) (l := []) (.inl rfl)
          rw [hpc0.out rfl]
          exact this
        go_enter Try.func40, Try.ntmps40
        go_wp2_with fail
        refine (G1.out _ (alloc_below _ _)).mono ?_
        rintro e w1 ⟨rfl, rfl⟩
        go_wp2_with fail
        refine (G2.out _ (alloc_below _ _)).mono ?_
        rintro e w2 ⟨rfl, rfl⟩
        go_wp2_with fail
        (try simp only [Exit.inBlock, Exit.then])
        refine bodyPost_ret (results_ent rfl _ _ w.heap.size [.string ⟨pc.toArray⟩, .int .i64 0] rfl rfl (alloc_bl w _ _)) rfl ?_
        rw [HE.out]
        exact ⟨by go_num, alloc_below _ _⟩
      · have hcs1 := hcs.out
        go_enter Try.func40, Try.ntmps40
        go_wp2_with fail
        refine (G1.out _ (alloc_below _ _)).mono ?_
        rintro e w1 ⟨rfl, rfl⟩
        go_wp2_with fail
        refine (G2.out _ (alloc_below _ _)).mono ?_
        rintro e w2 ⟨rfl, rfl⟩
        go_wp2_with fail
        (try simp only [Exit.inBlock, Exit.then])
        refine bodyPost_ret (results_ent rfl _ _ w.heap.size [.string ⟨pc.toArray⟩, .int .i64 0] rfl rfl (alloc_bl w _ _)) rfl ?_
        rw [HE.out]
        exact ⟨by go_num, alloc_below _ _⟩
    | some v =>
      have HE : Hid (entF l p clk = ((pieceF l (p + 2) n, s64 v), p + 2 + n + 8, decide (clk ≤ s64 v))) := by show _ = _; unfold entF; rw [hn]; dsimp only; rw [if_neg b0, if_neg b1, h8]
      rw [h8] at G2
      generalize entF l p clk = E at HE ⊢
      generalize pieceF l (p + 2) n = pc at hcs hpc0 HE
      clear hrp hpl hn hr h8
      by_cases hce : cap = p + 2
      · subst hce
        have hn0 : n = 0 := by omega
        subst hn0
        have hcs1 : (convert 30 9 (.slice (some ⟨g, off, none⟩) 0 0)).run Try.prog (w.alloc (.cells #[.string ⟨#[]⟩, .int .i64 0] 78)) = .ok (.string ⟨pc.toArray⟩) (w.alloc (.cells #[.string ⟨#[]⟩, .int .i64 0] 78)) := by
          have := conv_str (w := w.alloc (.cells #[.string ⟨#[]⟩, .int .i64 0] 78)) (ao := some ⟨g, off, none⟩) (c := 0) (l := []) (.inl rfl)
          rw [hpc0.out rfl]
          exact this
        go_enter Try.func40, Try.ntmps40
        go_wp2_with fail
        refine (G1.out _ (alloc_below _ _)).mono ?_
        rintro e w1 ⟨rfl, rfl⟩
        go_wp2_with fail
        refine (G2.out _ (alloc_below _ _)).mono ?_
        rintro e w2 ⟨rfl, rfl⟩
        go_wp2_with fail
        (try simp only [Exit.inBlock, Exit.then])
        refine bodyPost_ret (results_ent rfl _ _ w.heap.size [.string ⟨pc.toArray⟩, .int .i64 (wrap64 (v : Int))] rfl rfl (alloc_bl w _ _)) rfl ?_
        rw [HE.out]
        rw [s64_eq]
        exact ⟨by go_num, alloc_below _ _⟩
      · have hcs1 := hcs.out
        go_enter Try.func40, Try.ntmps40
        go_wp2_with fail
        refine (G1.out _ (alloc_below _ _)).mono ?_
        rintro e w1 ⟨rfl, rfl⟩
        go_wp2_with fail
        refine (G2.out _ (alloc_below _ _)).mono ?_
        rintro e w2 ⟨rfl, rfl⟩
        go_wp2_with fail
        (try simp only [Exit.inBlock, Exit.then])
        refine bodyPost_ret (results_ent rfl _ _ w.heap.size [.string ⟨pc.toArray⟩, .int .i64 (wrap64 (v : Int))] rfl rfl (alloc_bl w _ _)) rfl ?_
        rw [HE.out]
        rw [s64_eq]
        exact ⟨by go_num, alloc_below _ _⟩

end Go.Proofs.Ytidmjojlhcgedaa
