import Derived.Test.YtefpjjonmoofpaaDoorRM
import Derived.Test.YtefpjjonmoofpaaDoorShZ7
import Derived.Test.YtefpjjonmoofpaaDoorNtZ7
import Derived.Lib.AppendZeros
namespace Go.Proofs.YtefpjjonmoofpaaDoor
open Go.RowKit

/-- append(nil, make(n)): so many noughts. -/
theorem append_made (w : World) (n : Nat) (h0 : 0 < n) (hn : n ≤ 100000000) :
    ∃ (cap : Nat) (cs : Array Value), n ≤ cap ∧ cap ≤ maxLen ∧ cs.size = cap ∧ (Builtin.append_ #[23, 3] 23 #[.slice none 0 0, .int .i64 (n : Int)]).run Tryd.prog w = .ok (.slice (some ⟨w.heap.size, 0, none⟩) n cap) (w.drew.alloc (.cells cs 5)) := by
  obtain ⟨i, hi, hz, hsize, hby⟩ := info_parts infoB
  have hn0 : n ≠ 0 := by omega
  have h63' : ¬ (9223372036854775807 < (n : Int)) := by omega
  have h48' : ¬ (281474976710656 < Builtin.nextslicecap n 0) := by rw [nextslicecap_zero h0]; omega
  have hw : IntKind.i64.wrap (n : Int) = (n : Int) := by rw [IntKind.wrap_i64]; omega
  have hu : Tryd.prog.underlying 3 = some (.int .i64) := Tryd.underlying3
  have hneg : ¬ ((n : Int) < 0) := by omega
  have hbig : ¬ (281474976710656 < (n : Int)) := by omega
  have hge := grownCap_ge w n 0 5
  refine ⟨grownCap w n 0 5, Builtin.zeroCells (Value.int IntKind.u8 0).cells n ++ Builtin.zeroCells (Value.int IntKind.u8 0).cells (grownCap w n 0 5 - n), by simpa using hge, ?_, ?_, ?_⟩
  · exact grownCap_le_maxLen w n 0 _ (by unfold maxLen; omega)
  · rw [Array.size_append]
    simp [Builtin.zeroCells, Value.cells]
    omega
  · simp [Builtin.append_, run_underlying Tryd.underlying23, run_underlying hu, sizeOf, typeInfo, zeroValue, hi, hz, hsize, hby, Builtin.lenOf, hn0, h63', h48', Question.forced, run_firstCells_none, newRow, grownCap, hw, hneg, hbig, asInt, asIntOf]

set_option maxRecDepth 100000 in
set_option maxHeartbeats 1000000 in
theorem grow_any (n : Nat) (w : World) (hn : n ≤ 100000000) : Calls Tryd.prog 59 #[.slice none 0 0, .int .i64 (n : Int)] w fun e w' => ∃ v, e = .returned v ∧ OBb w.heap.size w w' v [] := by
  have c1 : decide ((n : Int) < 0) = false := decide_eq_false (by omega)
  by_cases h0 : n = 0
  · subst h0
    go_enter Tryd.func59, Tryd.ntmps59
    go_wp2
    go_ret
    exact ⟨_, rfl, OBb.nil w⟩
  · obtain ⟨cap, cs, h1, h2, h3, hrun⟩ := append_made w n (by omega) hn
    have c2 : decide ((n : Int) > 0) = true := decide_eq_true (by omega)
    have HO : Hid (OBb w.heap.size w (w.drew.alloc (.cells cs 5)) (.slice (some ⟨w.heap.size, 0, none⟩) 0 cap) []) := by
      refine ⟨⟨rfl, .inr ⟨w.heap.size, cap, cs, rfl, Nat.le_refl _, alloc_bl w.drew cs.toList 5, Nat.zero_le _, h2, by omega, by simp⟩⟩, ?_⟩
      exact Below.alloc (Below.drew (Below.refl _ _)) (Nat.le_refl _) _
    clear h3 h2
    generalize w.drew.alloc (.cells cs 5) = w9 at *
    go_enter Tryd.func59, Tryd.ntmps59
    go_wp2_with (at_builtin; refine Lib.wpList_append_run _ rfl _ _ 23 3 rfl _ _ rfl rfl _ _ hrun ?_)
    go_ret
    exact ⟨_, rfl, HO.out⟩

theorem Sha.Pts.below {w w' : World} {pa : Option Addr} {ps : List Sha.Prt} (h : Sha.Pts w pa ps) (hb : Below w.heap.size w w') : Sha.Pts w' pa ps := by
  obtain ⟨h1, h2⟩ := h
  refine ⟨?_, fun p hp => ⟨Sha.Rd.below (h2 p hp).1 hb (Nat.le_refl _), (h2 p hp).2⟩⟩
  rcases h1 with h1 | ⟨g, off, e, hc⟩
  · exact .inl h1
  · exact .inr ⟨g, off, e, fun j hj => cell_but (hc j hj) fun hg => hb.block g hg⟩

set_option maxRecDepth 100000 in
set_option maxHeartbeats 2000000 in
theorem concat_any (g0 off pc : Nat) (ps : List Sha.Prt) (w : World) (hp : Sha.Pts w (some ⟨g0, off, none⟩) ps) (hnil : ∀ p ∈ ps, p.a = none → p.c = 0) (hn : ps.length ≤ 1000) (hm : (Sha.cat ps).length ≤ 10000000) (hne : ps ≠ []) :
    Calls Tryd.prog 32 #[.slice (some ⟨g0, off, none⟩) ps.length pc] w fun e w' => ∃ v, e = .returned v ∧ OBb w.heap.size w w' v (Sha.cat ps) := by
  have HP : Hid (Sha.Pts w (some ⟨g0, off, none⟩) ps) := hp
  have HN : Hid (∀ p ∈ ps, p.a = none → p.c = 0) := hnil
  have HNe : Hid (ps ≠ []) := hne
  clear hp hnil hne
  go_enter Tryd.func32, Tryd.ntmps32
  go_wp2
  go_loop [3, 11] (fun s3 s11 => ∃ k : Nat, s11 = .int .i64 (k : Int) ∧ k ≤ ps.length ∧ s3 = .int .i64 (((Sha.cat (ps.take k)).length : Nat) : Int)) (fun _ s => ps.length - (intOf s).toNat)
  case atStart => exact ⟨0, rfl, Nat.zero_le _, rfl⟩
  case round =>
    obtain ⟨k, rfl, hk, rfl⟩ := hrel
    by_cases hlt : k < ps.length
    · have Ht : Hid ((Sha.cat (ps.take (k + 1))).length = (Sha.cat (ps.take k)).length + ps[k].l.length) := by show _ = _; rw [Sha.cat_take ps k hlt, List.length_append]
      have hl2 := Sha.cat_take_le ps (k + 1)
      rw [Ht.out] at hl2
      obtain ⟨h1, h2⟩ := HP.out
      obtain ⟨g', off', e', hc⟩ := h1.resolve_left HNe.out
      cases e'
      have gk := hc k hlt
      unfold Sha.prV at gk
      clear hc h1 h2
      generalize ps[k] = p at *
      generalize (Sha.cat (ps.take k)).length = S at *
      have hz : decide ((S : Int) + (p.l.length : Int) < 0) = false := decide_eq_false (by omega)
      go_wp2
      go_round
      case rel => exact ⟨k + 1, by go_num, by omega, by rw [Ht.out]; go_num⟩
      case measure => simp [intOf]; omega
    · obtain rfl : k = ps.length := by omega
      clear hlt hk
      rw [List.take_length]
      have C := grow_any (Sha.cat ps).length w (by omega)
      go_wp2_with fail
      refine C.mono ?_
      rintro e w1 ⟨v, rfl, ho⟩
      clear C
      have HO : Hid (OBb w.heap.size w w1 v (Sha.cat (ps.take 0))) := ho
      clear ho
      obtain ⟨a0, n0, c0, e0⟩ : ∃ a n c, v = .slice a n c := by obtain ⟨a, c, e, _⟩ := HO.out.own.nb; exact ⟨a, _, c, e⟩
      subst e0
      go_wp2
      go_loopw [6, 27] (fun s6 s27 wr => ∃ k : Nat, s27 = .int .i64 (k : Int) ∧ k ≤ ps.length ∧ Hid (OBb w.heap.size w wr s6 (Sha.cat (ps.take k)))) (fun _ s _ => ps.length - (intOf s).toNat)
      case atStart => exact ⟨0, rfl, Nat.zero_le _, HO⟩
      case round =>
        clear HO
        obtain ⟨k, rfl, hk, HO⟩ := hrel
        obtain ⟨a6, n6, c6, e6⟩ : ∃ a n c, u6 = .slice a n c := by obtain ⟨a, c, e, _⟩ := HO.out.own.nb; exact ⟨a, _, c, e⟩
        subst e6
        by_cases hlt : k < ps.length
        · have Ht : Hid (Sha.cat (ps.take (k + 1)) = Sha.cat (ps.take k) ++ ps[k].l) := Sha.cat_take ps k hlt
          have hl2 := Sha.cat_take_le ps (k + 1)
          rw [Ht.out, List.length_append] at hl2
          obtain ⟨h1, h2⟩ := Sha.Pts.below HP.out HO.out.bel
          obtain ⟨g', off', e', hc⟩ := h1.resolve_left HNe.out
          cases e'
          have gk := hc k hlt
          have hpk := h2 ps[k] (List.getElem_mem hlt)
          have hnl := HN.out ps[k] (List.getElem_mem hlt)
          unfold Sha.prV at gk
          have hrd : Hid (Rd wr ps[k].a ps[k].l) := hpk.1
          have hlc := hpk.2.1
          have hbs := HO.out.bel.size
          clear hc h1 h2 hpk
          generalize ps[k] = p at *
          have Hnl : Hid (p.a = none → p.l.length = 0 ∧ p.c = 0) := fun e => by have := hnl e; omega
          clear hnl
          go_wp2_with (at_builtin; refine append_rdb rfl (.tmp 31) (.tmp 32) rfl w.heap.size _ (Sha.cat (ps.take k)) rfl HO.out.own p.a p.l.length p.c p.l rfl rfl Hnl.out hrd.out (by omega) hbs ?_; intro v7 w7 h7 h8)
          have HO7 : Hid (OBb w.heap.size w w7 v7 (Sha.cat (ps.take (k + 1)))) := by
            rw [Ht.out]
            exact ⟨h7, HO.out.bel.grown h8 hbs (own_block HO.out.own)⟩
          clear h7 h8 HO
          go_wp2
          go_roundw
          case rel => exact ⟨k + 1, by go_num, by omega, HO7⟩
          case measure => simp [intOf]; omega
        · obtain rfl : k = ps.length := by omega
          have HZ : Hid (OBb w.heap.size w wr (.slice a6 n6 c6) (Sha.cat ps)) := by have := HO.out; rw [List.take_length] at this; exact this
          clear HO
          go_wp2
          go_ret
          exact ⟨_, rfl, HZ.out⟩

end Go.Proofs.YtefpjjonmoofpaaDoor
