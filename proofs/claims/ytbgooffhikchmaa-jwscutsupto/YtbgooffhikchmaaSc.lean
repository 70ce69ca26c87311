import Derived.Test.YtbgooffhikchmaaSb
namespace Go.Proofs.Ytbgooffhikchmaa
open Go.RowKit Go.Shelf

set_option maxHeartbeats 2000000 in
/-- The document's Split. -/
theorem rsplit_any (t : List UInt8) (w : World) : Calls Try.prog 5 #[.string ⟨t.toArray⟩] w fun e w' => e = .returned (.tuple #[.string ⟨(splF t).1.1.toArray⟩, .string ⟨(splF t).1.2.1.toArray⟩, .string ⟨(splF t).1.2.2.toArray⟩, .int .i64 ((splF t).2 : Nat)]) ∧ Below w.heap.size w w' := by
  by_cases h1 : 65536 < t.length
  · rw [splF_large h1]
    have c1 : decide ((t.length : Int) > 65536) = true := decide_eq_true (by omega)
    go_enter Try.func5, Try.ntmps5
    go_wp2
    ((try simp only [Exit.inBlock, Exit.then]); refine bodyPost_ret (results_tmp4 rfl _ _ _) rfl ?_)
    exact ⟨rfl, Below.refl _ _⟩
  · have c1 : decide ((t.length : Int) > 65536) = false := decide_eq_false (by omega)
    have HP : Hid (∀ k, k ≤ t.length → (pos 0 (t.take k)).length ≤ k) := fun k hk => by
      rw [pos_length]
      have h3 := List.count_le_length (a := (46 : UInt8)) (l := t.take k)
      rw [List.length_take] at h3
      omega
    have HS : Hid (∀ k (h : k < t.length), pos 0 (t.take (k + 1)) = if t[k] = 46 then pos 0 (t.take k) ++ [k] else pos 0 (t.take k)) := fun k h => by
      rw [List.take_succ_eq_append_getElem h, pos_append, Nat.zero_add, List.length_take, Nat.min_eq_left (by omega), pos, pos]
      split <;> simp
    go_enter Try.func5, Try.ntmps5
    go_wp2
    go_loopw [6, 7] (fun s6 s7 wr => ∃ k : Nat, s7 = .int .i64 (k : Int) ∧ k ≤ t.length ∧ Hid (OZ w.heap.size w wr s6 (pos 0 (t.take k)))) (fun _ s _ => t.length - (intOf s).toNat)
    case atStart => exact ⟨0, rfl, by omega, ⟨by simp [pos]; exact World.ownsRow_nil _ _ _ _, Below.refl _ _⟩⟩
    case round =>
      obtain ⟨k, rfl, hk, HO⟩ := hrel
      obtain ⟨a6, c6, e6⟩ := HO.out.slice
      by_cases hlt : k < t.length
      · have d1 : decide ((k : Int) < (t.length : Int)) = true := decide_eq_true (by omega)
        obtain ⟨x, Hx⟩ : ∃ x, Hid (t[k] = x) := ⟨t[k], rfl⟩
        have gx : (⟨t.toArray⟩ : ByteArray)[k]'(by show k < t.toArray.size; simpa using hlt) = x := by rw [← Hx.out]; simp [ByteArray.getElem_eq_getElem_data]
        have HSk : Hid (pos 0 (t.take (k + 1)) = if t[k] = 46 then pos 0 (t.take k) ++ [k] else pos 0 (t.take k)) := HS.out k hlt
        have hpl := HP.out k hk
        generalize pos 0 (t.take k) = L at HO HSk e6 hpl
        subst e6
        rw [Hx.out] at HSk
        clear Hx
        by_cases hx : x = 46
        · subst hx
          go_wp2_with (at_builtin; refine append_z (wr := wr) rfl (.tmp 21) (.tmp 23) rfl w.heap.size w _ L k rfl HO.out _ rfl rfl (by omega) (Nat.le_refl _) ?_; intro v7 w7 h7)
          have HO7 : Hid (OZ w.heap.size w w7 v7 (pos 0 (t.take (k + 1)))) := by rw [HSk.out, if_pos rfl]; exact h7
          clear h7 HO HSk
          go_wp2
          go_roundw
          case rel => exact ⟨k + 1, by go_num, by omega, HO7⟩
          case measure => simp [intOf]; omega
        · have hx2 : ((x.toNat : Int) == 46) = false := by
            rw [beq_eq_false_iff_ne]
            intro e
            exact hx (UInt8.toNat_inj.1 (by have : (46 : UInt8).toNat = 46 := rfl; omega))
          have HO7 : Hid (OZ w.heap.size w wr (.slice a6 L.length c6) (pos 0 (t.take (k + 1)))) := by rw [HSk.out, if_neg hx]; exact HO.out
          clear HO HSk hx
          go_wp2
          go_roundw
          case rel => exact ⟨k + 1, by go_num, by omega, HO7⟩
          case measure => simp [intOf]; omega
      · have d1 : decide ((k : Int) < (t.length : Int)) = false := decide_eq_false (by omega)
        have hkt : t.take k = t := List.take_of_length_le (by omega)
        rw [hkt] at HO e6
        have hpl : (pos 0 t).length ≤ t.length := by
          rw [pos_length]; exact List.count_le_length
        clear HP HS
        by_cases h2 : t.count 46 = 2
        · obtain ⟨a, b, c, ht, ha, hb, hc⟩ := three h2
          have HF : Hid (splF t = ((a, b, c), 0)) := by rw [ht]; exact splF_ok (by rw [← ht]; omega) ha hb hc
          have hp : pos 0 t = [a.length, a.length + 1 + b.length] := by rw [ht]; exact pos_two a b c ha hb hc
          rw [hp] at HO e6
          subst e6
          obtain ⟨g, eg, g0, g1⟩ := HO.out.two
          subst eg
          have hc6 : 2 ≤ c6 := by
            have h5 := HO.out.own
            rcases h5.2 with ⟨_, h0⟩ | ⟨g', cap, cur, e, _, _, hn, _⟩
            · simp at h0
            · injection e with e1 e2 e3
              subst e3
              simpa using hn
          have HB : Hid (Below w.heap.size w wr) := HO.out.bel
          have hL : t.length = a.length + 1 + b.length + 1 + c.length := by rw [ht]; simp; omega
          have E1 : Hid ((⟨t.toArray⟩ : ByteArray).extract 0 a.length = ⟨a.toArray⟩) := by rw [ht]; exact ext_take a _
          have E2 : Hid ((⟨t.toArray⟩ : ByteArray).extract (a.length + 1) (a.length + 1 + b.length) = ⟨b.toArray⟩) := by rw [ht]; exact sub_mid a b c _ _ rfl rfl
          have E3 : Hid ((⟨t.toArray⟩ : ByteArray).extract (a.length + 1 + b.length + 1) t.length = ⟨c.toArray⟩) := by
            have e := sub_end a b c (a.length + 1 + b.length + 1) t.length rfl (by rw [← ht]; omega)
            rwa [← ht] at e
          clear h2 hkt HO hpl ht hp ha hb hc
          generalize a.length = na at *
          obtain ⟨nb, hnb⟩ : ∃ nb, na + 1 + b.length = nb := ⟨_, rfl⟩
          rw [hnb] at g1 hL E2 E3
          have hnb2 : na + 1 ≤ nb := by omega
          have hL2 : nb + 1 ≤ t.length := by omega
          clear hnb hL
          go_wp2
          go_quiet (fail)
          go_wp2
          ((try simp only [Exit.inBlock, Exit.then]); refine bodyPost_ret (results_tmp4 rfl _ _ _) rfl ?_)
          refine ⟨?_, below_drewN HB.out _⟩
          rw [HF.out]
          show Ending.returned (.tuple #[.string ((⟨t.toArray⟩ : ByteArray).extract 0 na), .string ((⟨t.toArray⟩ : ByteArray).extract (na + 1) nb), .string ((⟨t.toArray⟩ : ByteArray).extract (nb + 1) t.length), .int .i64 0]) = _
          rw [E1.out, E2.out, E3.out]
          rfl
        · have HF : Hid (splF t = (([], [], []), 120)) := splF_dots (by omega) h2
          have c2 : (((pos 0 t).length : Int) != 2) = true := by rw [pos_length]; simp; omega
          generalize (pos 0 t) = L at *
          subst e6
          have HB : Hid (Below w.heap.size w wr) := HO.out.bel
          clear HO
          go_wp2
          ((try simp only [Exit.inBlock, Exit.then]); refine bodyPost_ret (results_tmp4 rfl _ _ _) rfl ?_)
          rw [HF.out]
          exact ⟨rfl, HB.out⟩

end Go.Proofs.Ytbgooffhikchmaa
