import Derived.Test.YtephdffhfkldoaaDoorOneLaw
namespace Go.Proofs.YtephdffhfkldoaaDoor
open Go.RowKit

theorem parse_short {l : List UInt8} (h : (parse l).2.1 = 0) (n : Nat) (hn : n < l.length) : parse (l.take n) = ([], 80, 0) := by
  obtain ⟨_, _, hl, hp⟩ := parse_good h
  generalize hm : meas l = q
  match q, hm with
  | none, hm => rw [pe_none hm] at hp; simp at hp
  | some (a, wl), hm =>
    have hwl : wl = l.length := by
      have hs := pe_sound 32 l _ _ hl hp
      cases hc : con ((l.getD 0 0).toNat : Int) with
      | false =>
        rw [pe_prim hm hc] at hp
        split at hp
        · simp only [Except.ok.injEq, Prod.mk.injEq] at hp; exact hp.2
        · simp at hp
      | true =>
        cases hsd : sound ⟨((l.getD 0 0).toNat : Int), [], 0⟩ with
        | false => rw [pe_bad hm hc hsd] at hp; simp at hp
        | true =>
          generalize hk : pk (pe 31) (inn l a wl).length (inn l a wl) = r
          match r, hk with
          | .error (p, c), hk => rw [pe_con_err hm hc hsd hk] at hp; simp at hp
          | .ok (us, m), hk =>
            rw [pe_con_ok hm hc hsd hk] at hp
            simp only [Except.ok.injEq, Prod.mk.injEq] at hp; exact hp.2
    subst hwl
    have := pe_short hm hl n hn 32
    unfold parse
    rw [this, if_neg (by rw [List.length_take]; omega)]

theorem parse_more {l x : List UInt8} (h : (parse l).2.1 = 0) (hx : x ≠ []) (hl : (l ++ x).length ≤ 65536) : parse (l ++ x) = ([], 80, l.length) := by
  obtain ⟨hE, _, hl2, _⟩ := parse_good h
  have := pe_complete 32 _ l x hE hl2
  have hxl : 0 < x.length := List.length_pos_iff.2 hx
  rw [List.length_append] at hl
  unfold parse
  rw [this, if_neg (by rw [List.length_append]; omega)]
  simp only [List.length_append]
  rw [if_pos (by omega)]

set_option maxRecDepth 100000 in
set_option maxHeartbeats 4000000 in
theorem derCuts_any (ao bo : Option Addr) (cap cap2 : Nat) (l l2 : List UInt8) (n : Int) (w : World) (hr : Rd w ao l) (hc : l.length ≤ cap) (hc2 : cap ≤ 2000000) (hnil : ao = none → cap = 0) (hr2 : Rd w bo l2) (hc3 : l2.length ≤ cap2) (hc4 : cap2 ≤ 2000000) :
    Calls Tryd.prog 4 #[.slice ao l.length cap, .int .i64 n, .slice bo l2.length cap2] w fun e w' => e = .returned (.bool true) ∧ Below w.heap.size w w' := by
  have HR : Hid (Rd w ao l) := hr
  have HQ : Hid (Rd w bo l2) := hr2
  have HC1 : Hid (∀ w', Rd w' ao l → Calls Tryd.prog 10 #[.slice ao l.length cap] w' fun e w'' => ∃ lv xs, (e = .returned (.tuple #[lv, .int .i64 (parse l).2.1, .int .i64 ((parse l).2.2 : Nat)]) ∧ Below w'.heap.size w' w'') ∧ Lst w'.heap.size w'' lv xs ∧ es xs = (parse l).1) := fun w' h => parse_any ao cap l w' h hc (by omega) hnil
  have Hsh : Hid ((parse l).2.1 = 0 → ∀ k, k < l.length → parse (l.take k) = ([], 80, 0)) := fun h k hk => parse_short h k hk
  have Hmo : Hid ((parse l).2.1 = 0 → l2 ≠ [] → (l ++ l2).length ≤ 65536 → parse (l ++ l2) = ([], 80, l.length)) := fun h h2 h3 => parse_more h h2 h3
  have Hle : Hid ((parse l).2.1 = 0 → l.length ≤ 65536) := fun h => (parse_good h).2.2.1
  generalize (parse l).2.1 = c at *
  generalize ((parse l).2.2) = p at *
  generalize ((parse l).1) = v at *
  clear hr hr2
  go_enter Tryd.func4, Tryd.ntmps4
  go_wp2_with fail
  refine (started_any w).mono ?_
  rintro e w1 ⟨rfl, hB1⟩
  have HB1 : Hid (Below w.heap.size w w1) := hB1
  have HR1 : Hid (Rd w1 ao l) := HR.out.below hB1 (Nat.le_refl _)
  have HQ1 : Hid (Rd w1 bo l2) := HQ.out.below hB1 (Nat.le_refl _)
  clear hB1 HR HQ
  go_wp2_with fail
  refine (HC1.out w1 HR1.out).mono ?_
  rintro e w2 ⟨lv, xs, ⟨rfl, hB2⟩, hL, hes⟩
  have HB2 : Hid (Below w.heap.size w w2) := HB1.out.trans (hB2.mono HB1.out.size)
  have HR2 : Hid (Rd w2 ao l) := HR1.out.below hB2 (Nat.le_refl _)
  have HQ2 : Hid (Rd w2 bo l2) := HQ1.out.below hB2 (Nat.le_refl _)
  obtain ⟨ax, cx, hlv, _⟩ := hL.row
  subst hlv
  clear HC1 HB1 HR1 HQ1 hB2 hL hes
  by_cases hc0 : c = 0
  · subst hc0
    have hsh := Hsh.out rfl
    have Hsh2 : Hid (∀ k, k < l.length → parse (l.take k) = ([], 80, 0)) := hsh
    have Hmo2 : Hid (l2 ≠ [] → (l ++ l2).length ≤ 65536 → parse (l ++ l2) = ([], 80, l.length)) := Hmo.out rfl
    have hle := Hle.out rfl
    clear Hsh Hmo hsh Hle
    by_cases hn : 0 ≤ n ∧ n < (l.length : Int)
    · obtain ⟨m, rfl⟩ : ∃ m : Nat, n = (m : Int) := ⟨n.toNat, by omega⟩
      have hml : m < l.length := by omega
      have CP : Hid (Calls Tryd.prog 10 #[.slice ao m cap] w2 fun e w'' => ∃ lv xs, (e = .returned (.tuple #[lv, .int .i64 80, .int .i64 0]) ∧ Below w2.heap.size w2 w'') ∧ Lst w2.heap.size w'' lv xs ∧ es xs = []) := by
        have h1 := parse_any ao cap (l.take m) w2 (HR2.out.take m) (by rw [List.length_take]; omega) (by omega) hnil
        rw [Hsh2.out m hml, List.length_take, Nat.min_eq_left (by omega)] at h1
        exact h1
      have hb1 : decide ((0 : Int) ≤ (m : Int)) = true := decide_eq_true (by omega)
      have hb2 : decide ((m : Int) < (l.length : Int)) = true := decide_eq_true (by omega)
      obtain ⟨g0, off0, hao, _, _⟩ := HR2.out.cell (by omega)
      subst hao
      have hmc : m ≤ cap := by omega
      clear Hsh2 hn hnil
      go_wp2_with fail
      refine CP.out.mono ?_
      rintro e w3 ⟨lv3, xs3, ⟨rfl, hB3⟩, hL3, hes3⟩
      obtain ⟨a3, c3, hlv3, _⟩ := hL3.row
      have hx3 : xs3.length = 0 := by have := congrArg List.length hes3; rw [es_length] at this; exact this
      rw [hx3] at hlv3
      subst hlv3
      have HBA : Hid (Below w.heap.size w w3) := HB2.out.trans (hB3.mono HB2.out.size)
      have HRA : Hid (Rd w3 (some ⟨g0, off0, none⟩) l) := HR2.out.below hB3 (Nat.le_refl _)
      have HQA : Hid (Rd w3 bo l2) := HQ2.out.below hB3 (Nat.le_refl _)
      clear hB3 hL3 hes3 hx3 CP HB2 HR2 HQ2
      have HO0 : Hid (Ob w3.heap.size w3 w3 (.slice none 0 0) []) := ⟨World.ownsRow_nil _ _ _ _, Below.refl _ _, Ku.refl _⟩
      go_wp2
      go_loopw [13, 14] (fun s13 s14 wr => ∃ k : Nat, s14 = .int .i64 (k : Int) ∧ k ≤ l.length ∧ Hid (Ob w3.heap.size w3 wr s13 (l.take k))) (fun _ s _ => l.length - (intOf s).toNat)
      case atStart => exact ⟨0, rfl, Nat.zero_le _, HO0⟩
      case round =>
        obtain ⟨k, rfl, hk, HO⟩ := hrel
        obtain ⟨va, vn, vc, hv⟩ : ∃ a n c, u13 = .slice a n c := (own_slice HO.out.own).elim fun a h => h.elim fun c e => ⟨a, _, c, e⟩
        subst hv
        by_cases hkl : k < l.length
        · obtain ⟨g, off, hao, _, hcell⟩ := (HRA.out.below HO.out.bel (Nat.le_refl _)).cell (by omega)
          cases hao
          have gx := hcell k hkl
          have Htk : Hid (l.take (k + 1) = l.take k ++ [UInt8.ofNat ((((l.getD k 0).toNat : Nat) : Int)).toNat]) := by
            show _ = _
            rw [List.take_succ_eq_append_getElem hkl, ← getD_eq l 0 hkl, Int.toNat_natCast, u8_of]
          have hy := u8_lt (l.getD k 0)
          generalize (l.getD k 0).toNat = y at *
          have hbr := HO.out.bel.size
          have hal : (l.take k).length + 1 ≤ 10000000000 := by rw [List.length_take]; omega
          clear hcell
          go_wp2_with (at_builtin; refine append_ob rfl (.tmp 58) (.tmp 63) rfl w3.heap.size _ (l.take k) rfl (HO.out.alloc hbr _) (some ⟨wr.heap.size, 0, none⟩) 1 1 [UInt8.ofNat ((y : Int)).toNat] rfl rfl (fun e => by cases e) (rd_lit1 wr (y : Int) (by omega) (by omega)) hal (by rw [alloc_size]; omega) ?_; intro v6 w6 hob6)
          have HO6 : Hid (Ob w3.heap.size w3 w6 v6 (l.take (k + 1))) := by rw [Htk.out]; exact hob6
          clear hob6
          obtain ⟨a6, n6, c6, hv6⟩ : ∃ a n c, v6 = .slice a n c := (own_slice HO6.out.own).elim fun a h => h.elim fun c e => ⟨a, _, c, e⟩
          subst hv6
          go_wp2
          go_roundw
          case rel => exact ⟨k + 1, by go_num, by omega, HO6⟩
          case measure => simp [intOf]; omega
        · have HO1 : Hid (Ob w3.heap.size w3 wr (.slice va vn vc) (l ++ l2.take 0)) := by
            have := HO.out
            rw [List.take_of_length_le (by omega)] at this
            rw [List.take_zero, List.append_nil]
            exact this
          clear HO
          go_wp2
          go_loopw [13, 15] (fun s13 s15 wq => ∃ k : Nat, s15 = .int .i64 (k : Int) ∧ k ≤ l2.length ∧ Hid (Ob w3.heap.size w3 wq s13 (l ++ l2.take k))) (fun _ s _ => l2.length - (intOf s).toNat)
          case atStart => exact ⟨0, rfl, Nat.zero_le _, HO1⟩
          case round =>
            obtain ⟨m, rfl, hm, HO⟩ := hrel
            obtain ⟨va, vn, vc, hv⟩ : ∃ a n c, u13 = .slice a n c := (own_slice HO.out.own).elim fun a h => h.elim fun c e => ⟨a, _, c, e⟩
            subst hv
            by_cases hml : m < l2.length
            · obtain ⟨g, off, hbo, _, hcell⟩ := (HQA.out.below HO.out.bel (Nat.le_refl _)).cell (by omega)
              cases hbo
              have gx := hcell m hml
              have Htk : Hid (l ++ l2.take (m + 1) = l ++ l2.take m ++ [UInt8.ofNat ((((l2.getD m 0).toNat : Nat) : Int)).toNat]) := by
                show _ = _
                rw [List.take_succ_eq_append_getElem hml, ← getD_eq l2 0 hml, Int.toNat_natCast, u8_of, List.append_assoc]
              have hy := u8_lt (l2.getD m 0)
              generalize (l2.getD m 0).toNat = y at *
              have hbr := HO.out.bel.size
              have hal : (l ++ l2.take m).length + 1 ≤ 10000000000 := by rw [List.length_append, List.length_take]; omega
              clear hcell
              go_wp2_with (at_builtin; refine append_ob rfl (.tmp 71) (.tmp 76) rfl w3.heap.size _ (l ++ l2.take m) rfl (HO.out.alloc hbr _) (some ⟨wr.heap.size, 0, none⟩) 1 1 [UInt8.ofNat ((y : Int)).toNat] rfl rfl (fun e => by cases e) (rd_lit1 wr (y : Int) (by omega) (by omega)) hal (by rw [alloc_size]; omega) ?_; intro v6 w6 hob6)
              have HO6 : Hid (Ob w3.heap.size w3 w6 v6 (l ++ l2.take (m + 1))) := by rw [Htk.out]; exact hob6
              clear hob6
              obtain ⟨a6, n6, c6, hv6⟩ : ∃ a n c, v6 = .slice a n c := (own_slice HO6.out.own).elim fun a h => h.elim fun c e => ⟨a, _, c, e⟩
              subst hv6
              go_wp2
              go_roundw
              case rel => exact ⟨m + 1, by go_num, by omega, HO6⟩
              case measure => simp [intOf]; omega
            · have HO2 : Hid (Ob w3.heap.size w3 wr (.slice va vn vc) (l ++ l2)) := by
                have := HO.out
                rw [List.take_of_length_le (by omega)] at this
                exact this
              have hvn : vn = (l ++ l2).length := by
                obtain ⟨_, _, e⟩ := own_slice HO2.out.own
                simp only [Value.slice.injEq] at e
                exact e.2.1
              have Hvn : Hid (vn = l.length + l2.length) := by show vn = _; rw [hvn, List.length_append]
              obtain ⟨hrd, hrl, hrc⟩ := own_rd (by have := HO2.out.own; rw [hvn] at this; exact this)
              have Hnn : Hid (va = none → vc = 0) := fun e => by
                rcases HO2.out.own.2 with ⟨h', _⟩ | ⟨g, cp, cur, h', _⟩
                · simp only [Value.slice.injEq] at h'; exact h'.2.2
                · simp only [Value.slice.injEq] at h'; rw [e] at h'; cases h'.1
              have CP : Hid (Calls Tryd.prog 10 #[.slice va vn vc] wr fun e w'' => ∃ lv xs, (e = .returned (.tuple #[lv, .int .i64 (parse (l ++ l2)).2.1, .int .i64 ((parse (l ++ l2)).2.2 : Nat)]) ∧ Below wr.heap.size wr w'') ∧ Lst wr.heap.size w'' lv xs ∧ es xs = (parse (l ++ l2)).1) := by
                rw [hvn]; exact parse_any va vc (l ++ l2) wr hrd hrl hrc Hnn.out
              have HBr : Hid (Below w.heap.size w wr) := HBA.out.trans (HO2.out.bel.mono HBA.out.size)
              have hvl : vn ≤ 5000000 := by have := Hvn.out; omega
              clear HO hrd hrl hrc hvn HO2
              rcases Nat.eq_zero_or_pos l2.length with h0 | h0
              · have hb0 : ((l2.length : Int) == 0) = true := by simp [h0]
                clear h0
                go_wp2
                go_ret
                exact ⟨rfl, HBr.out⟩
              · have hb0 : ((l2.length : Int) == 0) = false := by rw [beq_eq_false_iff_ne]; omega
                by_cases hbig : 65536 < vn
                · have hb1 : decide ((65536 : Int) < (vn : Int)) = true := decide_eq_true (by omega)
                  go_wp2
                  go_ret
                  exact ⟨rfl, HBr.out⟩
                · have hb1 : decide ((65536 : Int) < (vn : Int)) = false := decide_eq_false (by omega)
                  have hP := Hmo2.out (List.length_pos_iff.1 h0) (by rw [List.length_append]; have := Hvn.out; omega)
                  rw [hP] at CP
                  have CP2 : Hid (Calls Tryd.prog 10 #[.slice va vn vc] wr fun e w'' => ∃ lv xs, (e = .returned (.tuple #[lv, .int .i64 80, .int .i64 (l.length : Int)]) ∧ Below wr.heap.size wr w'') ∧ Lst wr.heap.size w'' lv xs ∧ es xs = []) := CP.out
                  clear hP CP
                  go_wp2_with fail
                  refine CP2.out.mono ?_
                  rintro e w8 ⟨lv8, xs8, ⟨rfl, hB8⟩, hL8, hes8⟩
                  obtain ⟨a8, c8, hlv8, _⟩ := hL8.row
                  have hx8 : xs8.length = 0 := by have := congrArg List.length hes8; rw [es_length] at this; exact this
                  rw [hx8] at hlv8
                  subst hlv8
                  go_wp2
                  go_ret
                  exact ⟨by simp, HBr.out.trans (hB8.mono HBr.out.size)⟩
    · have hb1 : (decide ((0 : Int) ≤ n) && decide (n < (l.length : Int))) = false := by
        rw [← Bool.not_eq_true, Bool.and_eq_true, decide_eq_true_eq, decide_eq_true_eq]; exact hn
      have HBA : Hid (Below w.heap.size w w2) := HB2.out
      have HRA : Hid (Rd w2 ao l) := HR2.out
      have HQA : Hid (Rd w2 bo l2) := HQ2.out
      clear Hsh2 HB2 HR2 HQ2
      rcases (show n < 0 ∨ (0 ≤ n ∧ (l.length : Int) ≤ n) by omega) with hn1 | ⟨hn1, hn2⟩
      · have hb2 : decide ((0 : Int) ≤ n) = false := decide_eq_false (by omega)
        clear hb1 hn
        have HO0 : Hid (Ob w2.heap.size w2 w2 (.slice none 0 0) []) := ⟨World.ownsRow_nil _ _ _ _, Below.refl _ _, Ku.refl _⟩
        go_wp2
        go_loopw [13, 14] (fun s13 s14 wr => ∃ k : Nat, s14 = .int .i64 (k : Int) ∧ k ≤ l.length ∧ Hid (Ob w2.heap.size w2 wr s13 (l.take k))) (fun _ s _ => l.length - (intOf s).toNat)
        case atStart => exact ⟨0, rfl, Nat.zero_le _, HO0⟩
        case round =>
          obtain ⟨k, rfl, hk, HO⟩ := hrel
          obtain ⟨va, vn, vc, hv⟩ : ∃ a n c, u13 = .slice a n c := (own_slice HO.out.own).elim fun a h => h.elim fun c e => ⟨a, _, c, e⟩
          subst hv
          by_cases hkl : k < l.length
          · obtain ⟨g, off, hao, _, hcell⟩ := (HRA.out.below HO.out.bel (Nat.le_refl _)).cell (by omega)
            cases hao
            have gx := hcell k hkl
            have Htk : Hid (l.take (k + 1) = l.take k ++ [UInt8.ofNat ((((l.getD k 0).toNat : Nat) : Int)).toNat]) := by
              show _ = _
              rw [List.take_succ_eq_append_getElem hkl, ← getD_eq l 0 hkl, Int.toNat_natCast, u8_of]
            have hy := u8_lt (l.getD k 0)
            generalize (l.getD k 0).toNat = y at *
            have hbr := HO.out.bel.size
            have hal : (l.take k).length + 1 ≤ 10000000000 := by rw [List.length_take]; omega
            clear hcell
            go_wp2_with (at_builtin; refine append_ob rfl (.tmp 58) (.tmp 63) rfl w2.heap.size _ (l.take k) rfl (HO.out.alloc hbr _) (some ⟨wr.heap.size, 0, none⟩) 1 1 [UInt8.ofNat ((y : Int)).toNat] rfl rfl (fun e => by cases e) (rd_lit1 wr (y : Int) (by omega) (by omega)) hal (by rw [alloc_size]; omega) ?_; intro v6 w6 hob6)
            have HO6 : Hid (Ob w2.heap.size w2 w6 v6 (l.take (k + 1))) := by rw [Htk.out]; exact hob6
            clear hob6
            obtain ⟨a6, n6, c6, hv6⟩ : ∃ a n c, v6 = .slice a n c := (own_slice HO6.out.own).elim fun a h => h.elim fun c e => ⟨a, _, c, e⟩
            subst hv6
            go_wp2
            go_roundw
            case rel => exact ⟨k + 1, by go_num, by omega, HO6⟩
            case measure => simp [intOf]; omega
          · have HO1 : Hid (Ob w2.heap.size w2 wr (.slice va vn vc) (l ++ l2.take 0)) := by
              have := HO.out
              rw [List.take_of_length_le (by omega)] at this
              rw [List.take_zero, List.append_nil]
              exact this
            clear HO
            go_wp2
            go_loopw [13, 15] (fun s13 s15 wq => ∃ k : Nat, s15 = .int .i64 (k : Int) ∧ k ≤ l2.length ∧ Hid (Ob w2.heap.size w2 wq s13 (l ++ l2.take k))) (fun _ s _ => l2.length - (intOf s).toNat)
            case atStart => exact ⟨0, rfl, Nat.zero_le _, HO1⟩
            case round =>
              obtain ⟨m, rfl, hm, HO⟩ := hrel
              obtain ⟨va, vn, vc, hv⟩ : ∃ a n c, u13 = .slice a n c := (own_slice HO.out.own).elim fun a h => h.elim fun c e => ⟨a, _, c, e⟩
              subst hv
              by_cases hml : m < l2.length
              · obtain ⟨g, off, hbo, _, hcell⟩ := (HQA.out.below HO.out.bel (Nat.le_refl _)).cell (by omega)
                cases hbo
                have gx := hcell m hml
                have Htk : Hid (l ++ l2.take (m + 1) = l ++ l2.take m ++ [UInt8.ofNat ((((l2.getD m 0).toNat : Nat) : Int)).toNat]) := by
                  show _ = _
                  rw [List.take_succ_eq_append_getElem hml, ← getD_eq l2 0 hml, Int.toNat_natCast, u8_of, List.append_assoc]
                have hy := u8_lt (l2.getD m 0)
                generalize (l2.getD m 0).toNat = y at *
                have hbr := HO.out.bel.size
                have hal : (l ++ l2.take m).length + 1 ≤ 10000000000 := by rw [List.length_append, List.length_take]; omega
                clear hcell
                go_wp2_with (at_builtin; refine append_ob rfl (.tmp 71) (.tmp 76) rfl w2.heap.size _ (l ++ l2.take m) rfl (HO.out.alloc hbr _) (some ⟨wr.heap.size, 0, none⟩) 1 1 [UInt8.ofNat ((y : Int)).toNat] rfl rfl (fun e => by cases e) (rd_lit1 wr (y : Int) (by omega) (by omega)) hal (by rw [alloc_size]; omega) ?_; intro v6 w6 hob6)
                have HO6 : Hid (Ob w2.heap.size w2 w6 v6 (l ++ l2.take (m + 1))) := by rw [Htk.out]; exact hob6
                clear hob6
                obtain ⟨a6, n6, c6, hv6⟩ : ∃ a n c, v6 = .slice a n c := (own_slice HO6.out.own).elim fun a h => h.elim fun c e => ⟨a, _, c, e⟩
                subst hv6
                go_wp2
                go_roundw
                case rel => exact ⟨m + 1, by go_num, by omega, HO6⟩
                case measure => simp [intOf]; omega
              · have HO2 : Hid (Ob w2.heap.size w2 wr (.slice va vn vc) (l ++ l2)) := by
                  have := HO.out
                  rw [List.take_of_length_le (by omega)] at this
                  exact this
                have hvn : vn = (l ++ l2).length := by
                  obtain ⟨_, _, e⟩ := own_slice HO2.out.own
                  simp only [Value.slice.injEq] at e
                  exact e.2.1
                have Hvn : Hid (vn = l.length + l2.length) := by show vn = _; rw [hvn, List.length_append]
                obtain ⟨hrd, hrl, hrc⟩ := own_rd (by have := HO2.out.own; rw [hvn] at this; exact this)
                have Hnn : Hid (va = none → vc = 0) := fun e => by
                  rcases HO2.out.own.2 with ⟨h', _⟩ | ⟨g, cp, cur, h', _⟩
                  · simp only [Value.slice.injEq] at h'; exact h'.2.2
                  · simp only [Value.slice.injEq] at h'; rw [e] at h'; cases h'.1
                have CP : Hid (Calls Tryd.prog 10 #[.slice va vn vc] wr fun e w'' => ∃ lv xs, (e = .returned (.tuple #[lv, .int .i64 (parse (l ++ l2)).2.1, .int .i64 ((parse (l ++ l2)).2.2 : Nat)]) ∧ Below wr.heap.size wr w'') ∧ Lst wr.heap.size w'' lv xs ∧ es xs = (parse (l ++ l2)).1) := by
                  rw [hvn]; exact parse_any va vc (l ++ l2) wr hrd hrl hrc Hnn.out
                have HBr : Hid (Below w.heap.size w wr) := HBA.out.trans (HO2.out.bel.mono HBA.out.size)
                have hvl : vn ≤ 5000000 := by have := Hvn.out; omega
                clear HO hrd hrl hrc hvn HO2
                rcases Nat.eq_zero_or_pos l2.length with h0 | h0
                · have hb0 : ((l2.length : Int) == 0) = true := by simp [h0]
                  clear h0
                  go_wp2
                  go_ret
                  exact ⟨rfl, HBr.out⟩
                · have hb0 : ((l2.length : Int) == 0) = false := by rw [beq_eq_false_iff_ne]; omega
                  by_cases hbig : 65536 < vn
                  · have hb1 : decide ((65536 : Int) < (vn : Int)) = true := decide_eq_true (by omega)
                    go_wp2
                    go_ret
                    exact ⟨rfl, HBr.out⟩
                  · have hb1 : decide ((65536 : Int) < (vn : Int)) = false := decide_eq_false (by omega)
                    have hP := Hmo2.out (List.length_pos_iff.1 h0) (by rw [List.length_append]; have := Hvn.out; omega)
                    rw [hP] at CP
                    have CP2 : Hid (Calls Tryd.prog 10 #[.slice va vn vc] wr fun e w'' => ∃ lv xs, (e = .returned (.tuple #[lv, .int .i64 80, .int .i64 (l.length : Int)]) ∧ Below wr.heap.size wr w'') ∧ Lst wr.heap.size w'' lv xs ∧ es xs = []) := CP.out
                    clear hP CP
                    go_wp2_with fail
                    refine CP2.out.mono ?_
                    rintro e w8 ⟨lv8, xs8, ⟨rfl, hB8⟩, hL8, hes8⟩
                    obtain ⟨a8, c8, hlv8, _⟩ := hL8.row
                    have hx8 : xs8.length = 0 := by have := congrArg List.length hes8; rw [es_length] at this; exact this
                    rw [hx8] at hlv8
                    subst hlv8
                    go_wp2
                    go_ret
                    exact ⟨by simp, HBr.out.trans (hB8.mono HBr.out.size)⟩
      · have hb2 : decide ((0 : Int) ≤ n) = true := decide_eq_true hn1
        have hb3 : decide (n < (l.length : Int)) = false := decide_eq_false (by omega)
        clear hb1 hn
        have HO0 : Hid (Ob w2.heap.size w2 w2 (.slice none 0 0) []) := ⟨World.ownsRow_nil _ _ _ _, Below.refl _ _, Ku.refl _⟩
        go_wp2
        go_loopw [13, 14] (fun s13 s14 wr => ∃ k : Nat, s14 = .int .i64 (k : Int) ∧ k ≤ l.length ∧ Hid (Ob w2.heap.size w2 wr s13 (l.take k))) (fun _ s _ => l.length - (intOf s).toNat)
        case atStart => exact ⟨0, rfl, Nat.zero_le _, HO0⟩
        case round =>
          obtain ⟨k, rfl, hk, HO⟩ := hrel
          obtain ⟨va, vn, vc, hv⟩ : ∃ a n c, u13 = .slice a n c := (own_slice HO.out.own).elim fun a h => h.elim fun c e => ⟨a, _, c, e⟩
          subst hv
          by_cases hkl : k < l.length
          · obtain ⟨g, off, hao, _, hcell⟩ := (HRA.out.below HO.out.bel (Nat.le_refl _)).cell (by omega)
            cases hao
            have gx := hcell k hkl
            have Htk : Hid (l.take (k + 1) = l.take k ++ [UInt8.ofNat ((((l.getD k 0).toNat : Nat) : Int)).toNat]) := by
              show _ = _
              rw [List.take_succ_eq_append_getElem hkl, ← getD_eq l 0 hkl, Int.toNat_natCast, u8_of]
            have hy := u8_lt (l.getD k 0)
            generalize (l.getD k 0).toNat = y at *
            have hbr := HO.out.bel.size
            have hal : (l.take k).length + 1 ≤ 10000000000 := by rw [List.length_take]; omega
            clear hcell
            go_wp2_with (at_builtin; refine append_ob rfl (.tmp 58) (.tmp 63) rfl w2.heap.size _ (l.take k) rfl (HO.out.alloc hbr _) (some ⟨wr.heap.size, 0, none⟩) 1 1 [UInt8.ofNat ((y : Int)).toNat] rfl rfl (fun e => by cases e) (rd_lit1 wr (y : Int) (by omega) (by omega)) hal (by rw [alloc_size]; omega) ?_; intro v6 w6 hob6)
            have HO6 : Hid (Ob w2.heap.size w2 w6 v6 (l.take (k + 1))) := by rw [Htk.out]; exact hob6
            clear hob6
            obtain ⟨a6, n6, c6, hv6⟩ : ∃ a n c, v6 = .slice a n c := (own_slice HO6.out.own).elim fun a h => h.elim fun c e => ⟨a, _, c, e⟩
            subst hv6
            go_wp2
            go_roundw
            case rel => exact ⟨k + 1, by go_num, by omega, HO6⟩
            case measure => simp [intOf]; omega
          · have HO1 : Hid (Ob w2.heap.size w2 wr (.slice va vn vc) (l ++ l2.take 0)) := by
              have := HO.out
              rw [List.take_of_length_le (by omega)] at this
              rw [List.take_zero, List.append_nil]
              exact this
            clear HO
            go_wp2
            go_loopw [13, 15] (fun s13 s15 wq => ∃ k : Nat, s15 = .int .i64 (k : Int) ∧ k ≤ l2.length ∧ Hid (Ob w2.heap.size w2 wq s13 (l ++ l2.take k))) (fun _ s _ => l2.length - (intOf s).toNat)
            case atStart => exact ⟨0, rfl, Nat.zero_le _, HO1⟩
            case round =>
              obtain ⟨m, rfl, hm, HO⟩ := hrel
              obtain ⟨va, vn, vc, hv⟩ : ∃ a n c, u13 = .slice a n c := (own_slice HO.out.own).elim fun a h => h.elim fun c e => ⟨a, _, c, e⟩
              subst hv
              by_cases hml : m < l2.length
              · obtain ⟨g, off, hbo, _, hcell⟩ := (HQA.out.below HO.out.bel (Nat.le_refl _)).cell (by omega)
                cases hbo
                have gx := hcell m hml
                have Htk : Hid (l ++ l2.take (m + 1) = l ++ l2.take m ++ [UInt8.ofNat ((((l2.getD m 0).toNat : Nat) : Int)).toNat]) := by
                  show _ = _
                  rw [List.take_succ_eq_append_getElem hml, ← getD_eq l2 0 hml, Int.toNat_natCast, u8_of, List.append_assoc]
                have hy := u8_lt (l2.getD m 0)
                generalize (l2.getD m 0).toNat = y at *
                have hbr := HO.out.bel.size
                have hal : (l ++ l2.take m).length + 1 ≤ 10000000000 := by rw [List.length_append, List.length_take]; omega
                clear hcell
                go_wp2_with (at_builtin; refine append_ob rfl (.tmp 71) (.tmp 76) rfl w2.heap.size _ (l ++ l2.take m) rfl (HO.out.alloc hbr _) (some ⟨wr.heap.size, 0, none⟩) 1 1 [UInt8.ofNat ((y : Int)).toNat] rfl rfl (fun e => by cases e) (rd_lit1 wr (y : Int) (by omega) (by omega)) hal (by rw [alloc_size]; omega) ?_; intro v6 w6 hob6)
                have HO6 : Hid (Ob w2.heap.size w2 w6 v6 (l ++ l2.take (m + 1))) := by rw [Htk.out]; exact hob6
                clear hob6
                obtain ⟨a6, n6, c6, hv6⟩ : ∃ a n c, v6 = .slice a n c := (own_slice HO6.out.own).elim fun a h => h.elim fun c e => ⟨a, _, c, e⟩
                subst hv6
                go_wp2
                go_roundw
                case rel => exact ⟨m + 1, by go_num, by omega, HO6⟩
                case measure => simp [intOf]; omega
              · have HO2 : Hid (Ob w2.heap.size w2 wr (.slice va vn vc) (l ++ l2)) := by
                  have := HO.out
                  rw [List.take_of_length_le (by omega)] at this
                  exact this
                have hvn : vn = (l ++ l2).length := by
                  obtain ⟨_, _, e⟩ := own_slice HO2.out.own
                  simp only [Value.slice.injEq] at e
                  exact e.2.1
                have Hvn : Hid (vn = l.length + l2.length) := by show vn = _; rw [hvn, List.length_append]
                obtain ⟨hrd, hrl, hrc⟩ := own_rd (by have := HO2.out.own; rw [hvn] at this; exact this)
                have Hnn : Hid (va = none → vc = 0) := fun e => by
                  rcases HO2.out.own.2 with ⟨h', _⟩ | ⟨g, cp, cur, h', _⟩
                  · simp only [Value.slice.injEq] at h'; exact h'.2.2
                  · simp only [Value.slice.injEq] at h'; rw [e] at h'; cases h'.1
                have CP : Hid (Calls Tryd.prog 10 #[.slice va vn vc] wr fun e w'' => ∃ lv xs, (e = .returned (.tuple #[lv, .int .i64 (parse (l ++ l2)).2.1, .int .i64 ((parse (l ++ l2)).2.2 : Nat)]) ∧ Below wr.heap.size wr w'') ∧ Lst wr.heap.size w'' lv xs ∧ es xs = (parse (l ++ l2)).1) := by
                  rw [hvn]; exact parse_any va vc (l ++ l2) wr hrd hrl hrc Hnn.out
                have HBr : Hid (Below w.heap.size w wr) := HBA.out.trans (HO2.out.bel.mono HBA.out.size)
                have hvl : vn ≤ 5000000 := by have := Hvn.out; omega
                clear HO hrd hrl hrc hvn HO2
                rcases Nat.eq_zero_or_pos l2.length with h0 | h0
                · have hb0 : ((l2.length : Int) == 0) = true := by simp [h0]
                  clear h0
                  go_wp2
                  go_ret
                  exact ⟨rfl, HBr.out⟩
                · have hb0 : ((l2.length : Int) == 0) = false := by rw [beq_eq_false_iff_ne]; omega
                  by_cases hbig : 65536 < vn
                  · have hb1 : decide ((65536 : Int) < (vn : Int)) = true := decide_eq_true (by omega)
                    go_wp2
                    go_ret
                    exact ⟨rfl, HBr.out⟩
                  · have hb1 : decide ((65536 : Int) < (vn : Int)) = false := decide_eq_false (by omega)
                    have hP := Hmo2.out (List.length_pos_iff.1 h0) (by rw [List.length_append]; have := Hvn.out; omega)
                    rw [hP] at CP
                    have CP2 : Hid (Calls Tryd.prog 10 #[.slice va vn vc] wr fun e w'' => ∃ lv xs, (e = .returned (.tuple #[lv, .int .i64 80, .int .i64 (l.length : Int)]) ∧ Below wr.heap.size wr w'') ∧ Lst wr.heap.size w'' lv xs ∧ es xs = []) := CP.out
                    clear hP CP
                    go_wp2_with fail
                    refine CP2.out.mono ?_
                    rintro e w8 ⟨lv8, xs8, ⟨rfl, hB8⟩, hL8, hes8⟩
                    obtain ⟨a8, c8, hlv8, _⟩ := hL8.row
                    have hx8 : xs8.length = 0 := by have := congrArg List.length hes8; rw [es_length] at this; exact this
                    rw [hx8] at hlv8
                    subst hlv8
                    go_wp2
                    go_ret
                    exact ⟨by simp, HBr.out.trans (hB8.mono HBr.out.size)⟩
  · have hcb : (c != 0) = true := by simp [hc0]
    go_wp2
    go_ret
    exact ⟨rfl, HB2.out⟩

end Go.Proofs.YtephdffhfkldoaaDoor
