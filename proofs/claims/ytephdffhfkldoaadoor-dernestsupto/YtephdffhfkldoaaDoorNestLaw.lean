import Derived.Test.YtephdffhfkldoaaDoorNM1
namespace Go.Proofs.YtephdffhfkldoaaDoor
open Go.RowKit

theorem rd_lit3 (w : World) (x : Int) (h0 : 0 ≤ x) (h1 : x < 256) : (w.alloc (.cells #[.int .u8 48, .int .u8 129, .int .u8 x] 5)).ownsRow w.heap.size 5 1 (.slice (some ⟨w.heap.size, 0, none⟩) 3 3) 3 (([48, 129, UInt8.ofNat x.toNat] : List UInt8).map B) := by
  have := World.ownsRow_lit (base := w.heap.size) (e := 5) (size := 1) w #[.int .u8 48, .int .u8 129, .int .u8 x] 3 (Nat.le_refl _) (by unfold maxLen; omega) rfl
  have e : (([48, 129, UInt8.ofNat x.toNat] : List UInt8).map B) = [.int .u8 48, .int .u8 129, .int .u8 x] := by
    simp only [List.map_cons, List.map_nil, B]
    rw [u8_ofNat _ (by omega), show ((x.toNat : Nat) : Int) = x from by omega]
    rfl
  rw [e]
  exact this
theorem own_lit2 (w : World) (x : Int) (h0 : 0 ≤ x) (h1 : x < 256) : (w.alloc (.cells #[.int .u8 48, .int .u8 x] 5)).ownsRow w.heap.size 5 1 (.slice (some ⟨w.heap.size, 0, none⟩) 2 2) 2 (([48, UInt8.ofNat x.toNat] : List UInt8).map B) := by
  have := World.ownsRow_lit (base := w.heap.size) (e := 5) (size := 1) w #[.int .u8 48, .int .u8 x] 2 (Nat.le_refl _) (by unfold maxLen; omega) rfl
  have e : (([48, UInt8.ofNat x.toNat] : List UInt8).map B) = [.int .u8 48, .int .u8 x] := by
    simp only [List.map_cons, List.map_nil, B]
    rw [u8_ofNat _ (by omega), show ((x.toNat : Nat) : Int) = x from by omega]
    rfl
  rw [e]
  exact this
theorem own_lit4 (w : World) (x y : Int) (h0 : 0 ≤ x) (h1 : x < 256) (h2 : 0 ≤ y) (h3 : y < 256) : (w.alloc (.cells #[.int .u8 48, .int .u8 130, .int .u8 x, .int .u8 y] 5)).ownsRow w.heap.size 5 1 (.slice (some ⟨w.heap.size, 0, none⟩) 4 4) 4 (([48, 130, UInt8.ofNat x.toNat, UInt8.ofNat y.toNat] : List UInt8).map B) := by
  have := World.ownsRow_lit (base := w.heap.size) (e := 5) (size := 1) w #[.int .u8 48, .int .u8 130, .int .u8 x, .int .u8 y] 4 (Nat.le_refl _) (by unfold maxLen; omega) rfl
  have e : (([48, 130, UInt8.ofNat x.toNat, UInt8.ofNat y.toNat] : List UInt8).map B) = [.int .u8 48, .int .u8 130, .int .u8 x, .int .u8 y] := by
    simp only [List.map_cons, List.map_nil, B]
    rw [u8_ofNat _ (by omega), u8_ofNat _ (by omega), show ((x.toNat : Nat) : Int) = x from by omega, show ((y.toNat : Nat) : Int) = y from by omega]
    rfl
  rw [e]
  exact this

theorem El_pos {d : Nat} {ts : List E} {bs : List UInt8} (h : El d ts bs) : 0 < ts.length := by
  cases d with
  | zero => obtain ⟨t, rfl, _⟩ := h; simp
  | succ d => rcases h with ⟨t, rfl, _⟩ | ⟨t, q, b, rfl, _⟩ <;> simp

theorem row_drop {w : World} {g off : Nat} {xs : List X} (h : Row w (some ⟨g, off, none⟩) xs) (k : Nat) : Row w (some ⟨g, off + k * 3, none⟩) (xs.drop k) := by
  refine ⟨?_, fun x hx => h.ok x (List.mem_of_mem_drop hx)⟩
  rcases h.at' with h0 | ⟨g', off', e, hg, hc⟩
  · exact .inl (by rw [h0]; simp)
  · cases e
    refine .inr ⟨g, off + k * 3, rfl, hg, fun j hj => ?_⟩
    rw [List.length_drop] at hj
    have := hc (k + j) (by omega)
    rw [List.getElem_drop, show off + k * 3 + j * 3 = off + (k + j) * 3 from by omega]
    exact this
theorem row_take {w : World} {ao : Option Addr} {xs : List X} (h : Row w ao xs) (k : Nat) : Row w ao (xs.take k) := by
  refine ⟨?_, fun x hx => h.ok x (List.mem_of_mem_take hx)⟩
  rcases h.at' with h0 | ⟨g, off, e, hg, hc⟩
  · exact .inl (by rw [h0]; simp)
  · refine .inr ⟨g, off, e, hg, fun j hj => ?_⟩
    have hj2 : j < k ∧ j < xs.length := by rw [List.length_take] at hj; omega
    have := hc j hj2.2
    rw [List.getElem_take]
    exact this

set_option maxRecDepth 100000 in
set_option maxHeartbeats 8000000 in
theorem derNests_any (ao bo : Option Addr) (cap cap2 : Nat) (l l2 : List UInt8) (w : World) (hr : Rd w ao l) (hc : l.length ≤ cap) (hc2 : cap ≤ 2000000) (hnil : ao = none → cap = 0) (hr2 : Rd w bo l2) (hc3 : l2.length ≤ cap2) (hc4 : cap2 ≤ 2000000) (hnil2 : bo = none → cap2 = 0) :
    Calls Tryd.prog 5 #[.slice ao l.length cap, .slice bo l2.length cap2] w fun e w' => e = .returned (.bool true) ∧ Below w.heap.size w w' := by
  have HR : Hid (Rd w ao l) := hr
  have HQ : Hid (Rd w bo l2) := hr2
  have HC1 : Hid (∀ w', Rd w' ao l → Calls Tryd.prog 10 #[.slice ao l.length cap] w' fun e w'' => ∃ lv xs, (e = .returned (.tuple #[lv, .int .i64 (parse l).2.1, .int .i64 ((parse l).2.2 : Nat)]) ∧ Below w'.heap.size w' w'') ∧ Lst w'.heap.size w'' lv xs ∧ es xs = (parse l).1) := fun w' h => parse_any ao cap l w' h hc (by omega) hnil
  have HC2 : Hid (∀ w', Rd w' bo l2 → Calls Tryd.prog 10 #[.slice bo l2.length cap2] w' fun e w'' => ∃ lv xs, (e = .returned (.tuple #[lv, .int .i64 (parse l2).2.1, .int .i64 ((parse l2).2.2 : Nat)]) ∧ Below w'.heap.size w' w'') ∧ Lst w'.heap.size w'' lv xs ∧ es xs = (parse l2).1) := fun w' h => parse_any bo cap2 l2 w' h hc3 (by omega) hnil2
  clear hr hr2 hnil hnil2
  go_enter Tryd.func5, Tryd.ntmps5
  go_wp2_with fail
  refine (started_any w).mono ?_
  rintro e w1 ⟨rfl, hB1⟩
  have HB1 : Hid (Below w.heap.size w w1) := hB1
  have HR1 : Hid (Rd w1 ao l) := HR.out.below hB1 (Nat.le_refl _)
  have HQ1 : Hid (Rd w1 bo l2) := HQ.out.below hB1 (Nat.le_refl _)
  clear hB1 HR HQ
  by_cases hbig : 65000 < l.length + l2.length
  · go_wp2
    go_ret
    exact ⟨rfl, HB1.out⟩
  have HPS : Hid _ := parse_seq l l2 (by omega)
  have Hxp : Hid ((parse l).2.1 = 0 → 0 < (parse l).1.length ∧ (parse l).1.length ≤ l.length) := fun h => ⟨El_pos (parse_good h).1, El_len _ _ _ (parse_good h).1⟩
  have Hyp : Hid ((parse l2).2.1 = 0 → 0 < (parse l2).1.length ∧ (parse l2).1.length ≤ l2.length) := fun h => ⟨El_pos (parse_good h).1, El_len _ _ _ (parse_good h).1⟩
  have hpa := parse_err (l := l)
  have hps := parse_err (l := seq l l2)
  have hsl := seq_length l l2
  have hhl := hd_length 48 (l.length + l2.length)
  generalize parse l = P1 at *
  generalize parse l2 = P2 at *
  obtain ⟨v1, e1, p1⟩ := P1
  obtain ⟨v2, e2, p2⟩ := P2
  simp only at HC1 HC2 HPS hpa Hxp Hyp
  go_wp2_with fail
  refine (HC1.out w1 HR1.out).mono ?_
  rintro e w2 ⟨lv, xs, ⟨rfl, hB2⟩, hL, hes⟩
  have HB2 : Hid (Below w.heap.size w w2) := HB1.out.trans (hB2.mono HB1.out.size)
  have HR2 : Hid (Rd w2 ao l) := HR1.out.below hB2 (Nat.le_refl _)
  have HQ2 : Hid (Rd w2 bo l2) := HQ1.out.below hB2 (Nat.le_refl _)
  obtain ⟨ax, cx, hlv, hRx, _⟩ := hL.row
  subst hlv
  have HX2 : Hid (Row w2 ax xs) := hRx
  have Hes : Hid (es xs = v1) := hes
  clear HC1 HB1 HR1 HQ1 hB2 hL hes hRx
  go_wp2_with fail
  refine (HC2.out w2 HQ2.out).mono ?_
  rintro e w3 ⟨lv2, ys, ⟨rfl, hB3⟩, hL2, hes2⟩
  have HB3 : Hid (Below w.heap.size w w3) := HB2.out.trans (hB3.mono HB2.out.size)
  have HR3 : Hid (Rd w3 ao l) := HR2.out.below hB3 (Nat.le_refl _)
  have HQ3 : Hid (Rd w3 bo l2) := HQ2.out.below hB3 (Nat.le_refl _)
  obtain ⟨ay, cy, hlv2, hRy, _⟩ := hL2.row
  subst hlv2
  have HX3 : Hid (Row w3 ax xs) := HX2.out.below hB3 (Nat.le_refl _)
  have HY3 : Hid (Row w3 ay ys) := hRy
  have Hes2 : Hid (es ys = v2) := hes2
  clear HC2 HB2 HR2 HQ2 hB3 hL2 hes2 hRy HX2
  have Hhd : Hid (hd 48 (l.length + l2.length) = if l.length + l2.length < 128 then [48, UInt8.ofNat (l.length + l2.length)] else if l.length + l2.length < 256 then [48, 129, UInt8.ofNat (l.length + l2.length)] else [48, 130, UInt8.ofNat ((l.length + l2.length) / 256), UInt8.ofNat ((l.length + l2.length) % 256)]) := by
    show _ = _
    unfold hd
    by_cases q1 : l.length + l2.length < 128
    · rw [if_pos q1, if_pos q1]; rfl
    · rw [if_neg q1, if_neg q1]
      by_cases q2 : l.length + l2.length < 256
      · rw [if_pos q2, if_pos q2]; rfl
      · rw [if_neg q2, if_neg q2, if_pos (by omega)]; rfl
  have Hsq : Hid (seq l l2 = hd 48 (l.length + l2.length) ++ (l ++ l2)) := rfl
  obtain ⟨n, Hn⟩ : ∃ n, Hid (n = l.length + l2.length) := ⟨_, rfl⟩
  have hnb : n ≤ 65000 := by have := Hn.out; omega
  have Hn' : Hid (True → (l.length : Int) + (l2.length : Int) = (n : Int)) := fun _ => by have := Hn.out; omega
  rw [← Hn.out] at Hhd Hsq HPS hsl hhl
  clear hbig hsl
  rcases Nat.lt_or_ge n 128 with hn1 | hn1
  · have hbn : ¬ (128 : Int) ≤ (l.length : Int) + (l2.length : Int) := by have := Hn.out; omega
    have hsm : (l.length : Int) + (l2.length : Int) < 128 := by have := Hn.out; omega
    have HOw := own_lit2 w3 ((l.length : Int) + (l2.length : Int)) (by omega) (by omega)
    have HhdE : Hid (hd 48 n = [48, UInt8.ofNat ((l.length : Int) + (l2.length : Int)).toNat]) := by show _ = _; rw [Hhd.out, if_pos hn1, Hn'.out trivial, Int.toNat_natCast]
    have HOH : Hid (Ob w3.heap.size w3 (w3.alloc (Obj.cells #[.int .u8 48, .int .u8 ((l.length : Int) + (l2.length : Int))] 5)) (.slice (some ⟨w3.heap.size, 0, none⟩) 2 2) (hd 48 n)) := ⟨by rw [HhdE.out]; exact HOw, alloc_below _ _, Ku.of_below (alloc_below _ _)⟩
    have hKh : (hd 48 n).length = 2 := by rw [HhdE.out]; rfl
    have HKh : Hid ((hd 48 n).length = 2) := hKh
    clear HOw hKh Hhd HhdE
    go_wp2
    generalize (w3.alloc (Obj.cells #[.int .u8 48, .int .u8 ((l.length : Int) + (l2.length : Int))] 5)) = wH at *
    go_loopw [12, 14] (fun s12 s14 wr => ∃ k : Nat, s14 = .int .i64 (k : Int) ∧ k ≤ l.length ∧ Hid (Ob w3.heap.size w3 wr s12 (hd 48 n ++ l.take k))) (fun _ s _ => l.length - (intOf s).toNat)
    case atStart => exact ⟨0, rfl, Nat.zero_le _, by rw [List.take_zero, List.append_nil]; exact HOH⟩
    case round =>
      obtain ⟨k, rfl, hk, HO⟩ := hrel
      obtain ⟨va, vn, vc, hv⟩ : ∃ a n c, u12 = .slice a n c := (own_slice HO.out.own).elim fun a h => h.elim fun c e => ⟨a, _, c, e⟩
      subst hv
      by_cases hkl : k < l.length
      · obtain ⟨g, off, hao, _, hcell⟩ := (HR3.out.below HO.out.bel (Nat.le_refl _)).cell (by omega)
        cases hao
        have gx := hcell k hkl
        have Htk : Hid (hd 48 n ++ l.take (k + 1) = hd 48 n ++ l.take k ++ [UInt8.ofNat ((((l.getD k 0).toNat : Nat) : Int)).toNat]) := by
          show _ = _
          rw [List.take_succ_eq_append_getElem hkl, ← getD_eq l 0 hkl, Int.toNat_natCast, u8_of, List.append_assoc]
        have hy := u8_lt (l.getD k 0)
        generalize (l.getD k 0).toNat = y at *
        have hbr := HO.out.bel.size
        have hal : (hd 48 n ++ l.take k).length + 1 ≤ 10000000000 := by rw [List.length_append, List.length_take, HKh.out]; omega
        clear hcell
        go_wp2_with (at_builtin; refine append_ob rfl (.tmp 73) (.tmp 78) rfl w3.heap.size _ (hd 48 n ++ l.take k) rfl (HO.out.alloc hbr _) (some ⟨wr.heap.size, 0, none⟩) 1 1 [UInt8.ofNat ((y : Int)).toNat] rfl rfl (fun e => by cases e) (rd_lit1 wr (y : Int) (by omega) (by omega)) hal (by rw [alloc_size]; omega) ?_; intro v6 w6 hob6)
        have HO6 : Hid (Ob w3.heap.size w3 w6 v6 (hd 48 n ++ l.take (k + 1))) := by rw [Htk.out]; exact hob6
        clear hob6
        obtain ⟨a6, n6, c6, hv6⟩ : ∃ a n c, v6 = .slice a n c := (own_slice HO6.out.own).elim fun a h => h.elim fun c e => ⟨a, _, c, e⟩
        subst hv6
        go_wp2
        go_roundw
        case rel => exact ⟨k + 1, by go_num, by omega, HO6⟩
        case measure => simp [intOf]; omega
      · have HO1 : Hid (Ob w3.heap.size w3 wr (.slice va vn vc) (hd 48 n ++ l ++ l2.take 0)) := by
          have := HO.out
          rw [List.take_of_length_le (by omega)] at this
          rw [List.take_zero, List.append_nil]
          exact this
        clear HO
        go_wp2
        go_loopw [12, 15] (fun s12 s15 wq => ∃ k : Nat, s15 = .int .i64 (k : Int) ∧ k ≤ l2.length ∧ Hid (Ob w3.heap.size w3 wq s12 (hd 48 n ++ l ++ l2.take k))) (fun _ s _ => l2.length - (intOf s).toNat)
        case atStart => exact ⟨0, rfl, Nat.zero_le _, HO1⟩
        case round =>
          obtain ⟨m, rfl, hm, HO⟩ := hrel
          obtain ⟨va, vn, vc, hv⟩ : ∃ a n c, u12 = .slice a n c := (own_slice HO.out.own).elim fun a h => h.elim fun c e => ⟨a, _, c, e⟩
          subst hv
          by_cases hml : m < l2.length
          · obtain ⟨g, off, hbo, _, hcell⟩ := (HQ3.out.below HO.out.bel (Nat.le_refl _)).cell (by omega)
            cases hbo
            have gx := hcell m hml
            have Htk : Hid (hd 48 n ++ l ++ l2.take (m + 1) = hd 48 n ++ l ++ l2.take m ++ [UInt8.ofNat ((((l2.getD m 0).toNat : Nat) : Int)).toNat]) := by
              show _ = _
              rw [List.take_succ_eq_append_getElem hml, ← getD_eq l2 0 hml, Int.toNat_natCast, u8_of]
              simp only [List.append_assoc]
            have hy := u8_lt (l2.getD m 0)
            generalize (l2.getD m 0).toNat = y at *
            have hbr := HO.out.bel.size
            have hal : (hd 48 n ++ l ++ l2.take m).length + 1 ≤ 10000000000 := by rw [List.length_append, List.length_append, List.length_take, HKh.out]; omega
            clear hcell
            go_wp2_with (at_builtin; refine append_ob rfl (.tmp 86) (.tmp 91) rfl w3.heap.size _ (hd 48 n ++ l ++ l2.take m) rfl (HO.out.alloc hbr _) (some ⟨wr.heap.size, 0, none⟩) 1 1 [UInt8.ofNat ((y : Int)).toNat] rfl rfl (fun e => by cases e) (rd_lit1 wr (y : Int) (by omega) (by omega)) hal (by rw [alloc_size]; omega) ?_; intro v6 w6 hob6)
            have HO6 : Hid (Ob w3.heap.size w3 w6 v6 (hd 48 n ++ l ++ l2.take (m + 1))) := by rw [Htk.out]; exact hob6
            clear hob6
            obtain ⟨a6, n6, c6, hv6⟩ : ∃ a n c, v6 = .slice a n c := (own_slice HO6.out.own).elim fun a h => h.elim fun c e => ⟨a, _, c, e⟩
            subst hv6
            go_wp2
            go_roundw
            case rel => exact ⟨m + 1, by go_num, by omega, HO6⟩
            case measure => simp [intOf]; omega
          · have HO2 : Hid (Ob w3.heap.size w3 wr (.slice va vn vc) (seq l l2)) := by
              have := HO.out
              rw [List.take_of_length_le (by omega), List.append_assoc] at this
              rw [Hsq.out]
              exact this
            have hvn : vn = (seq l l2).length := by
              obtain ⟨_, _, e⟩ := own_slice HO2.out.own
              simp only [Value.slice.injEq] at e
              exact e.2.1
            obtain ⟨hrd, hrl, hrc⟩ := own_rd (by have := HO2.out.own; rw [hvn] at this; exact this)
            have Hnn : Hid (va = none → vc = 0) := fun e => by
              rcases HO2.out.own.2 with ⟨h', _⟩ | ⟨g, cp, cur, h', _⟩
              · simp only [Value.slice.injEq] at h'; exact h'.2.2
              · simp only [Value.slice.injEq] at h'; rw [e] at h'; cases h'.1
            have CP : Hid (Calls Tryd.prog 10 #[.slice va vn vc] wr fun e w'' => ∃ lv xs, (e = .returned (.tuple #[lv, .int .i64 (parse (seq l l2)).2.1, .int .i64 ((parse (seq l l2)).2.2 : Nat)]) ∧ Below wr.heap.size wr w'') ∧ Lst wr.heap.size w'' lv xs ∧ es xs = (parse (seq l l2)).1) := by
              rw [hvn]; exact parse_any va vc (seq l l2) wr hrd hrl hrc Hnn.out
            have HBr : Hid (Below w.heap.size w wr) := HB3.out.trans (HO2.out.bel.mono HB3.out.size)
            have HXr : Hid (Row wr ax xs) := HX3.out.below HO2.out.bel (Nat.le_refl _)
            have HYr : Hid (Row wr ay ys) := HY3.out.below HO2.out.bel (Nat.le_refl _)
            clear HO hrd hrl hrc hvn HO2 Hnn
            go_wp2_with fail
            refine CP.out.mono ?_
            rintro e w8 ⟨lv8, zs, ⟨rfl, hB8⟩, hL8, hes8⟩
            obtain ⟨az, cz, hlv8, hRz, _, hcz, _⟩ := hL8.row
            subst hlv8
            have hczm : cz ≤ 9223372036854775807 := by
              rcases hL8.own.2 with ⟨h', _⟩ | ⟨g, cp, cur, h', _, _, _, h2, _⟩
              · simp only [Value.slice.injEq] at h'; omega
              · simp only [Value.slice.injEq] at h'; unfold maxLen at h2; omega
            have HB8 : Hid (Below w.heap.size w w8) := HBr.out.trans (hB8.mono HBr.out.size)
            have HX8 : Hid (Row w8 ax xs) := HXr.out.below hB8 (Nat.le_refl _)
            have HY8 : Hid (Row w8 ay ys) := HYr.out.below hB8 (Nat.le_refl _)
            have HZ8 : Hid (Row w8 az zs) := hRz
            have Hes8 : Hid (es zs = (parse (seq l l2)).1) := hes8
            clear CP hB8 hL8 hRz hes8 HBr HXr HYr
            generalize parse (seq l l2) = P3 at *
            obtain ⟨v3, e3, p3⟩ := P3
            simp only at HPS Hes8 hps ⊢
            have hKI : ((hd 48 n).length : Int) = 2 := by have := HKh.out; omega
            by_cases he11 : e1 = 11
            · subst he11
              have hp1 := (hpa (by decide)).2.2
              rcases HPS.out.1 rfl with ⟨h1, h2⟩ | h1
              · subst h1
                rw [HKh.out] at h2
                have hb2 : decide ((p3 : Int) ≤ (p1 : Int) + 2) = true := decide_eq_true (by omega)
                clear HPS hps hpa hKI
                go_wp2
                go_ret
                exact ⟨rfl, HB8.out⟩
              · subst h1
                clear HPS hps hpa hKI
                go_wp2
                go_ret
                exact ⟨rfl, HB8.out⟩
            · have hb11 : (e1 == 11) = false := by simp [he11]
              by_cases he1 : e1 = 0
              · subst he1
                by_cases he2 : e2 = 0
                · subst he2
                  by_cases he3 : e3 = 0
                  · subst he3
                    have Hv3 : Hid (v3 = ⟨48, [], 2⟩ :: (v1 ++ v2)) := HPS.out.2.2 rfl rfl rfl
                    clear HPS hps hpa hKI
                    have hzl : zs.length = xs.length + ys.length + 1 := by
                      have h1 := congrArg List.length Hes8.out
                      have h2 := congrArg List.length Hes.out
                      have h3 := congrArg List.length Hes2.out
                      rw [es_length, Hv3.out] at h1
                      rw [es_length] at h2 h3
                      simp only [List.length_cons, List.length_append] at h1
                      omega
                    have Hzl : Hid (zs.length = xs.length + ys.length + 1) := hzl
                    rcases HZ8.out.at' with h0 | ⟨gz, oz, haz, hgz, hcz8⟩
                    · rw [h0] at hzl; simp at hzl
                    subst haz
                    have hz0 : zs[0].e = ⟨48, [], 2⟩ := by
                      have h1 := Hes8.out
                      rw [Hv3.out] at h1
                      have h2 : (es zs)[0]? = some ⟨48, [], 2⟩ := by rw [h1]; rfl
                      rw [es, List.getElem?_map, List.getElem?_eq_getElem (by omega)] at h2
                      simpa using h2
                    have cT : w8.cell? ⟨gz, oz, none⟩ = some (.int .i64 48) := by
                      have := (hcz8 0 (by omega)).1
                      rw [hz0] at this
                      simpa using this
                    have cKd : w8.cell? ⟨gz, oz + 2, none⟩ = some (.int .i64 2) := by
                      have := (hcz8 0 (by omega)).2.2
                      rw [hz0] at this
                      simpa using this
                    have hxp : 0 < xs.length ∧ xs.length ≤ l.length := by have := Hxp.out rfl; rw [← Hes.out, es_length] at this; exact this
                    have hyp : 0 < ys.length ∧ ys.length ≤ l2.length := by have := Hyp.out rfl; rw [← Hes2.out, es_length] at this; exact this
                    obtain ⟨hxp, hxq⟩ := hxp
                    obtain ⟨hyp, hyq⟩ := hyp
                    have HS1 : Hid (∀ w', Below w8.heap.size w8 w' → Calls Tryd.prog 14 #[.slice (some ⟨gz, oz + 3, none⟩) xs.length (cz - 1), .slice ax xs.length cx] w' fun e w'' => e = .returned (.bool true) ∧ Below w'.heap.size w' w'') := fun w' hb => by
                      have h1 := same_any (some ⟨gz, oz + 1 * 3, none⟩) ax (cz - 1) cx ((zs.drop 1).take xs.length) xs w' ((row_take (row_drop HZ8.out 1) xs.length).below hb (Nat.le_refl _)) (HX8.out.below hb (Nat.le_refl _)) (by rw [List.length_take]; omega)
                      have h2 : ((zs.drop 1).take xs.length).length = xs.length := by rw [List.length_take, List.length_drop]; have := Hzl.out; omega
                      have h3 : es ((zs.drop 1).take xs.length) = es xs := by
                        unfold es at *
                        rw [List.map_take, List.map_drop, Hes8.out, Hv3.out, List.drop_succ_cons, List.drop_zero, ← Hes.out, List.take_left' (by simp)]
                      rw [h2, decide_eq_true h3] at h1
                      exact h1
                    have HS2 : Hid (∀ w', Below w8.heap.size w8 w' → Calls Tryd.prog 14 #[.slice (some ⟨gz, oz + (xs.length + 1) * 3, none⟩) ys.length (cz - (xs.length + 1)), .slice ay ys.length cy] w' fun e w'' => e = .returned (.bool true) ∧ Below w'.heap.size w' w'') := fun w' hb => by
                      have h1 := same_any (some ⟨gz, oz + (xs.length + 1) * 3, none⟩) ay (cz - (xs.length + 1)) cy (zs.drop (xs.length + 1)) ys w' ((row_drop HZ8.out (xs.length + 1)).below hb (Nat.le_refl _)) (HY8.out.below hb (Nat.le_refl _)) (by rw [List.length_drop]; omega)
                      have h2 : (zs.drop (xs.length + 1)).length = ys.length := by rw [List.length_drop]; have := Hzl.out; omega
                      have h3 : es (zs.drop (xs.length + 1)) = es ys := by
                        unfold es at *
                        rw [List.map_drop, Hes8.out, Hv3.out, List.drop_succ_cons, ← Hes.out, List.drop_left' (by simp), Hes2.out]
                      rw [h2, decide_eq_true h3] at h1
                      exact h1
                    rw [hzl] at hcz ⊢
                    clear hcz8 hz0 hzl Hv3 HX8 HY8 HZ8
                    go_wp2_with fail
                    refine (HS1.out w8 (Below.refl _ _)).mono ?_
                    rintro e w9 ⟨rfl, hB9⟩
                    have HB9 : Hid (Below w8.heap.size w8 w9) := hB9
                    clear hB9 HS1
                    go_wp2_with fail
                    refine (HS2.out w9 HB9.out).mono ?_
                    rintro e wT ⟨rfl, hBT⟩
                    go_wp2
                    go_ret
                    exact ⟨rfl, (HB8.out.trans (HB9.out.mono HB8.out.size)).trans (hBT.mono (Nat.le_trans HB8.out.size HB9.out.size))⟩
                  · have h11 := HPS.out.2.1 rfl rfl he3
                    subst h11
                    clear HPS hps hpa hKI
                    go_wp2
                    go_ret
                    exact ⟨rfl, HB8.out⟩
                · have hb2 : (e2 != 0) = true := by simp [he2]
                  clear HPS hps hpa hKI
                  go_wp2
                  go_ret
                  exact ⟨rfl, HB8.out⟩
              · have hb2 : (e1 != 0) = true := by simp [he1]
                clear HPS hps hpa hKI
                go_wp2
                go_ret
                exact ⟨rfl, HB8.out⟩
  · have hbn : (128 : Int) ≤ (l.length : Int) + (l2.length : Int) := by have := Hn.out; omega
    rcases Nat.lt_or_ge n 256 with hn2 | hn2
    · have hsm : (l.length : Int) + (l2.length : Int) < 256 := by have := Hn.out; omega
      have HOw := rd_lit3 ((w3.alloc (Obj.cells #[.int .u8 48, .int .u8 ((l.length : Int) + (l2.length : Int))] 5)).alloc (Obj.cells #[.int .u8 48, .int .u8 130, .int .u8 (((l.length : Int) + (l2.length : Int)) / 256), .int .u8 (((l.length : Int) + (l2.length : Int)) % 256)] 5)) ((l.length : Int) + (l2.length : Int)) (by omega) (by omega)
      have HhdE : Hid (hd 48 n = [48, 129, UInt8.ofNat ((l.length : Int) + (l2.length : Int)).toNat]) := by show _ = _; rw [Hhd.out, if_neg (by omega), if_pos hn2, Hn'.out trivial, Int.toNat_natCast]
      have HBw : Below w3.heap.size w3 (((w3.alloc (Obj.cells #[.int .u8 48, .int .u8 ((l.length : Int) + (l2.length : Int))] 5)).alloc (Obj.cells #[.int .u8 48, .int .u8 130, .int .u8 (((l.length : Int) + (l2.length : Int)) / 256), .int .u8 (((l.length : Int) + (l2.length : Int)) % 256)] 5)).alloc (Obj.cells #[.int .u8 48, .int .u8 129, .int .u8 ((l.length : Int) + (l2.length : Int))] 5)) := ((alloc_below w3 _).trans ((alloc_below (w3.alloc (Obj.cells #[.int .u8 48, .int .u8 ((l.length : Int) + (l2.length : Int))] 5)) _).mono (by rw [alloc_size]; omega))).trans ((alloc_below ((w3.alloc (Obj.cells #[.int .u8 48, .int .u8 ((l.length : Int) + (l2.length : Int))] 5)).alloc (Obj.cells #[.int .u8 48, .int .u8 130, .int .u8 (((l.length : Int) + (l2.length : Int)) / 256), .int .u8 (((l.length : Int) + (l2.length : Int)) % 256)] 5)) _).mono (by rw [alloc_size, alloc_size]; omega))
      have HOH : Hid (Ob w3.heap.size w3 (((w3.alloc (Obj.cells #[.int .u8 48, .int .u8 ((l.length : Int) + (l2.length : Int))] 5)).alloc (Obj.cells #[.int .u8 48, .int .u8 130, .int .u8 (((l.length : Int) + (l2.length : Int)) / 256), .int .u8 (((l.length : Int) + (l2.length : Int)) % 256)] 5)).alloc (Obj.cells #[.int .u8 48, .int .u8 129, .int .u8 ((l.length : Int) + (l2.length : Int))] 5)) (.slice (some ⟨w3.heap.size + 1 + 1, 0, none⟩) 3 3) (hd 48 n)) := ⟨by rw [HhdE.out]; have := own_base (base' := w3.heap.size) HOw (by rw [alloc_size, alloc_size]; omega); rw [alloc_size, alloc_size] at this; exact this, HBw, Ku.of_below HBw⟩
      have HKh : Hid ((hd 48 n).length = 3) := by show _ = _; rw [HhdE.out]; rfl
      clear HOw Hhd HhdE HBw
      go_wp2
      generalize (((w3.alloc (Obj.cells #[.int .u8 48, .int .u8 ((l.length : Int) + (l2.length : Int))] 5)).alloc (Obj.cells #[.int .u8 48, .int .u8 130, .int .u8 (((l.length : Int) + (l2.length : Int)) / 256), .int .u8 (((l.length : Int) + (l2.length : Int)) % 256)] 5)).alloc (Obj.cells #[.int .u8 48, .int .u8 129, .int .u8 ((l.length : Int) + (l2.length : Int))] 5)) = wH at *
      go_loopw [12, 14] (fun s12 s14 wr => ∃ k : Nat, s14 = .int .i64 (k : Int) ∧ k ≤ l.length ∧ Hid (Ob w3.heap.size w3 wr s12 (hd 48 n ++ l.take k))) (fun _ s _ => l.length - (intOf s).toNat)
      case atStart => exact ⟨0, rfl, Nat.zero_le _, by rw [List.take_zero, List.append_nil]; exact HOH⟩
      case round =>
        obtain ⟨k, rfl, hk, HO⟩ := hrel
        obtain ⟨va, vn, vc, hv⟩ : ∃ a n c, u12 = .slice a n c := (own_slice HO.out.own).elim fun a h => h.elim fun c e => ⟨a, _, c, e⟩
        subst hv
        by_cases hkl : k < l.length
        · obtain ⟨g, off, hao, _, hcell⟩ := (HR3.out.below HO.out.bel (Nat.le_refl _)).cell (by omega)
          cases hao
          have gx := hcell k hkl
          have Htk : Hid (hd 48 n ++ l.take (k + 1) = hd 48 n ++ l.take k ++ [UInt8.ofNat ((((l.getD k 0).toNat : Nat) : Int)).toNat]) := by
            show _ = _
            rw [List.take_succ_eq_append_getElem hkl, ← getD_eq l 0 hkl, Int.toNat_natCast, u8_of, List.append_assoc]
          have hy := u8_lt (l.getD k 0)
          generalize (l.getD k 0).toNat = y at *
          have hbr := HO.out.bel.size
          have hal : (hd 48 n ++ l.take k).length + 1 ≤ 10000000000 := by rw [List.length_append, List.length_take, HKh.out]; omega
          clear hcell
          go_wp2_with (at_builtin; refine append_ob rfl (.tmp 73) (.tmp 78) rfl w3.heap.size _ (hd 48 n ++ l.take k) rfl (HO.out.alloc hbr _) (some ⟨wr.heap.size, 0, none⟩) 1 1 [UInt8.ofNat ((y : Int)).toNat] rfl rfl (fun e => by cases e) (rd_lit1 wr (y : Int) (by omega) (by omega)) hal (by rw [alloc_size]; omega) ?_; intro v6 w6 hob6)
          have HO6 : Hid (Ob w3.heap.size w3 w6 v6 (hd 48 n ++ l.take (k + 1))) := by rw [Htk.out]; exact hob6
          clear hob6
          obtain ⟨a6, n6, c6, hv6⟩ : ∃ a n c, v6 = .slice a n c := (own_slice HO6.out.own).elim fun a h => h.elim fun c e => ⟨a, _, c, e⟩
          subst hv6
          go_wp2
          go_roundw
          case rel => exact ⟨k + 1, by go_num, by omega, HO6⟩
          case measure => simp [intOf]; omega
        · have HO1 : Hid (Ob w3.heap.size w3 wr (.slice va vn vc) (hd 48 n ++ l ++ l2.take 0)) := by
            have := HO.out
            rw [List.take_of_length_le (by omega)] at this
            rw [List.take_zero, List.append_nil]
            exact this
          clear HO
          go_wp2
          go_loopw [12, 15] (fun s12 s15 wq => ∃ k : Nat, s15 = .int .i64 (k : Int) ∧ k ≤ l2.length ∧ Hid (Ob w3.heap.size w3 wq s12 (hd 48 n ++ l ++ l2.take k))) (fun _ s _ => l2.length - (intOf s).toNat)
          case atStart => exact ⟨0, rfl, Nat.zero_le _, HO1⟩
          case round =>
            obtain ⟨m, rfl, hm, HO⟩ := hrel
            obtain ⟨va, vn, vc, hv⟩ : ∃ a n c, u12 = .slice a n c := (own_slice HO.out.own).elim fun a h => h.elim fun c e => ⟨a, _, c, e⟩
            subst hv
            by_cases hml : m < l2.length
            · obtain ⟨g, off, hbo, _, hcell⟩ := (HQ3.out.below HO.out.bel (Nat.le_refl _)).cell (by omega)
              cases hbo
              have gx := hcell m hml
              have Htk : Hid (hd 48 n ++ l ++ l2.take (m + 1) = hd 48 n ++ l ++ l2.take m ++ [UInt8.ofNat ((((l2.getD m 0).toNat : Nat) : Int)).toNat]) := by
                show _ = _
                rw [List.take_succ_eq_append_getElem hml, ← getD_eq l2 0 hml, Int.toNat_natCast, u8_of]
                simp only [List.append_assoc]
              have hy := u8_lt (l2.getD m 0)
              generalize (l2.getD m 0).toNat = y at *
              have hbr := HO.out.bel.size
              have hal : (hd 48 n ++ l ++ l2.take m).length + 1 ≤ 10000000000 := by rw [List.length_append, List.length_append, List.length_take, HKh.out]; omega
              clear hcell
              go_wp2_with (at_builtin; refine append_ob rfl (.tmp 86) (.tmp 91) rfl w3.heap.size _ (hd 48 n ++ l ++ l2.take m) rfl (HO.out.alloc hbr _) (some ⟨wr.heap.size, 0, none⟩) 1 1 [UInt8.ofNat ((y : Int)).toNat] rfl rfl (fun e => by cases e) (rd_lit1 wr (y : Int) (by omega) (by omega)) hal (by rw [alloc_size]; omega) ?_; intro v6 w6 hob6)
              have HO6 : Hid (Ob w3.heap.size w3 w6 v6 (hd 48 n ++ l ++ l2.take (m + 1))) := by rw [Htk.out]; exact hob6
              clear hob6
              obtain ⟨a6, n6, c6, hv6⟩ : ∃ a n c, v6 = .slice a n c := (own_slice HO6.out.own).elim fun a h => h.elim fun c e => ⟨a, _, c, e⟩
              subst hv6
              go_wp2
              go_roundw
              case rel => exact ⟨m + 1, by go_num, by omega, HO6⟩
              case measure => simp [intOf]; omega
            · have HO2 : Hid (Ob w3.heap.size w3 wr (.slice va vn vc) (seq l l2)) := by
                have := HO.out
                rw [List.take_of_length_le (by omega), List.append_assoc] at this
                rw [Hsq.out]
                exact this
              have hvn : vn = (seq l l2).length := by
                obtain ⟨_, _, e⟩ := own_slice HO2.out.own
                simp only [Value.slice.injEq] at e
                exact e.2.1
              obtain ⟨hrd, hrl, hrc⟩ := own_rd (by have := HO2.out.own; rw [hvn] at this; exact this)
              have Hnn : Hid (va = none → vc = 0) := fun e => by
                rcases HO2.out.own.2 with ⟨h', _⟩ | ⟨g, cp, cur, h', _⟩
                · simp only [Value.slice.injEq] at h'; exact h'.2.2
                · simp only [Value.slice.injEq] at h'; rw [e] at h'; cases h'.1
              have CP : Hid (Calls Tryd.prog 10 #[.slice va vn vc] wr fun e w'' => ∃ lv xs, (e = .returned (.tuple #[lv, .int .i64 (parse (seq l l2)).2.1, .int .i64 ((parse (seq l l2)).2.2 : Nat)]) ∧ Below wr.heap.size wr w'') ∧ Lst wr.heap.size w'' lv xs ∧ es xs = (parse (seq l l2)).1) := by
                rw [hvn]; exact parse_any va vc (seq l l2) wr hrd hrl hrc Hnn.out
              have HBr : Hid (Below w.heap.size w wr) := HB3.out.trans (HO2.out.bel.mono HB3.out.size)
              have HXr : Hid (Row wr ax xs) := HX3.out.below HO2.out.bel (Nat.le_refl _)
              have HYr : Hid (Row wr ay ys) := HY3.out.below HO2.out.bel (Nat.le_refl _)
              clear HO hrd hrl hrc hvn HO2 Hnn
              go_wp2_with fail
              refine CP.out.mono ?_
              rintro e w8 ⟨lv8, zs, ⟨rfl, hB8⟩, hL8, hes8⟩
              obtain ⟨az, cz, hlv8, hRz, _, hcz, _⟩ := hL8.row
              subst hlv8
              have hczm : cz ≤ 9223372036854775807 := by
                rcases hL8.own.2 with ⟨h', _⟩ | ⟨g, cp, cur, h', _, _, _, h2, _⟩
                · simp only [Value.slice.injEq] at h'; omega
                · simp only [Value.slice.injEq] at h'; unfold maxLen at h2; omega
              have HB8 : Hid (Below w.heap.size w w8) := HBr.out.trans (hB8.mono HBr.out.size)
              have HX8 : Hid (Row w8 ax xs) := HXr.out.below hB8 (Nat.le_refl _)
              have HY8 : Hid (Row w8 ay ys) := HYr.out.below hB8 (Nat.le_refl _)
              have HZ8 : Hid (Row w8 az zs) := hRz
              have Hes8 : Hid (es zs = (parse (seq l l2)).1) := hes8
              clear CP hB8 hL8 hRz hes8 HBr HXr HYr
              generalize parse (seq l l2) = P3 at *
              obtain ⟨v3, e3, p3⟩ := P3
              simp only at HPS Hes8 hps ⊢
              have hKI : ((hd 48 n).length : Int) = 3 := by have := HKh.out; omega
              by_cases he11 : e1 = 11
              · subst he11
                have hp1 := (hpa (by decide)).2.2
                rcases HPS.out.1 rfl with ⟨h1, h2⟩ | h1
                · subst h1
                  rw [HKh.out] at h2
                  have hb2 : decide ((p3 : Int) ≤ (p1 : Int) + 3) = true := decide_eq_true (by omega)
                  clear HPS hps hpa hKI
                  go_wp2
                  go_ret
                  exact ⟨rfl, HB8.out⟩
                · subst h1
                  clear HPS hps hpa hKI
                  go_wp2
                  go_ret
                  exact ⟨rfl, HB8.out⟩
              · have hb11 : (e1 == 11) = false := by simp [he11]
                by_cases he1 : e1 = 0
                · subst he1
                  by_cases he2 : e2 = 0
                  · subst he2
                    by_cases he3 : e3 = 0
                    · subst he3
                      have Hv3 : Hid (v3 = ⟨48, [], 2⟩ :: (v1 ++ v2)) := HPS.out.2.2 rfl rfl rfl
                      clear HPS hps hpa hKI
                      have hzl : zs.length = xs.length + ys.length + 1 := by
                        have h1 := congrArg List.length Hes8.out
                        have h2 := congrArg List.length Hes.out
                        have h3 := congrArg List.length Hes2.out
                        rw [es_length, Hv3.out] at h1
                        rw [es_length] at h2 h3
                        simp only [List.length_cons, List.length_append] at h1
                        omega
                      have Hzl : Hid (zs.length = xs.length + ys.length + 1) := hzl
                      rcases HZ8.out.at' with h0 | ⟨gz, oz, haz, hgz, hcz8⟩
                      · rw [h0] at hzl; simp at hzl
                      subst haz
                      have hz0 : zs[0].e = ⟨48, [], 2⟩ := by
                        have h1 := Hes8.out
                        rw [Hv3.out] at h1
                        have h2 : (es zs)[0]? = some ⟨48, [], 2⟩ := by rw [h1]; rfl
                        rw [es, List.getElem?_map, List.getElem?_eq_getElem (by omega)] at h2
                        simpa using h2
                      have cT : w8.cell? ⟨gz, oz, none⟩ = some (.int .i64 48) := by
                        have := (hcz8 0 (by omega)).1
                        rw [hz0] at this
                        simpa using this
                      have cKd : w8.cell? ⟨gz, oz + 2, none⟩ = some (.int .i64 2) := by
                        have := (hcz8 0 (by omega)).2.2
                        rw [hz0] at this
                        simpa using this
                      have hxp : 0 < xs.length ∧ xs.length ≤ l.length := by have := Hxp.out rfl; rw [← Hes.out, es_length] at this; exact this
                      have hyp : 0 < ys.length ∧ ys.length ≤ l2.length := by have := Hyp.out rfl; rw [← Hes2.out, es_length] at this; exact this
                      obtain ⟨hxp, hxq⟩ := hxp
                      obtain ⟨hyp, hyq⟩ := hyp
                      have HS1 : Hid (∀ w', Below w8.heap.size w8 w' → Calls Tryd.prog 14 #[.slice (some ⟨gz, oz + 3, none⟩) xs.length (cz - 1), .slice ax xs.length cx] w' fun e w'' => e = .returned (.bool true) ∧ Below w'.heap.size w' w'') := fun w' hb => by
                        have h1 := same_any (some ⟨gz, oz + 1 * 3, none⟩) ax (cz - 1) cx ((zs.drop 1).take xs.length) xs w' ((row_take (row_drop HZ8.out 1) xs.length).below hb (Nat.le_refl _)) (HX8.out.below hb (Nat.le_refl _)) (by rw [List.length_take]; omega)
                        have h2 : ((zs.drop 1).take xs.length).length = xs.length := by rw [List.length_take, List.length_drop]; have := Hzl.out; omega
                        have h3 : es ((zs.drop 1).take xs.length) = es xs := by
                          unfold es at *
                          rw [List.map_take, List.map_drop, Hes8.out, Hv3.out, List.drop_succ_cons, List.drop_zero, ← Hes.out, List.take_left' (by simp)]
                        rw [h2, decide_eq_true h3] at h1
                        exact h1
                      have HS2 : Hid (∀ w', Below w8.heap.size w8 w' → Calls Tryd.prog 14 #[.slice (some ⟨gz, oz + (xs.length + 1) * 3, none⟩) ys.length (cz - (xs.length + 1)), .slice ay ys.length cy] w' fun e w'' => e = .returned (.bool true) ∧ Below w'.heap.size w' w'') := fun w' hb => by
                        have h1 := same_any (some ⟨gz, oz + (xs.length + 1) * 3, none⟩) ay (cz - (xs.length + 1)) cy (zs.drop (xs.length + 1)) ys w' ((row_drop HZ8.out (xs.length + 1)).below hb (Nat.le_refl _)) (HY8.out.below hb (Nat.le_refl _)) (by rw [List.length_drop]; omega)
                        have h2 : (zs.drop (xs.length + 1)).length = ys.length := by rw [List.length_drop]; have := Hzl.out; omega
                        have h3 : es (zs.drop (xs.length + 1)) = es ys := by
                          unfold es at *
                          rw [List.map_drop, Hes8.out, Hv3.out, List.drop_succ_cons, ← Hes.out, List.drop_left' (by simp), Hes2.out]
                        rw [h2, decide_eq_true h3] at h1
                        exact h1
                      rw [hzl] at hcz ⊢
                      clear hcz8 hz0 hzl Hv3 HX8 HY8 HZ8
                      go_wp2_with fail
                      refine (HS1.out w8 (Below.refl _ _)).mono ?_
                      rintro e w9 ⟨rfl, hB9⟩
                      have HB9 : Hid (Below w8.heap.size w8 w9) := hB9
                      clear hB9 HS1
                      go_wp2_with fail
                      refine (HS2.out w9 HB9.out).mono ?_
                      rintro e wT ⟨rfl, hBT⟩
                      go_wp2
                      go_ret
                      exact ⟨rfl, (HB8.out.trans (HB9.out.mono HB8.out.size)).trans (hBT.mono (Nat.le_trans HB8.out.size HB9.out.size))⟩
                    · have h11 := HPS.out.2.1 rfl rfl he3
                      subst h11
                      clear HPS hps hpa hKI
                      go_wp2
                      go_ret
                      exact ⟨rfl, HB8.out⟩
                  · have hb2 : (e2 != 0) = true := by simp [he2]
                    clear HPS hps hpa hKI
                    go_wp2
                    go_ret
                    exact ⟨rfl, HB8.out⟩
                · have hb2 : (e1 != 0) = true := by simp [he1]
                  clear HPS hps hpa hKI
                  go_wp2
                  go_ret
                  exact ⟨rfl, HB8.out⟩
    · have hsm : ¬ (l.length : Int) + (l2.length : Int) < 256 := by have := Hn.out; omega
      have Hd1 : Hid (((l.length : Int) + (l2.length : Int)) / 256 = ((n / 256 : Nat) : Int) ∧ ((l.length : Int) + (l2.length : Int)) % 256 = ((n % 256 : Nat) : Int)) := by
        have := Hn'.out trivial
        exact ⟨by rw [this]; omega, by rw [this]; omega⟩
      have hq1 : n / 256 < 256 := by omega
      have HOw := own_lit4 (w3.alloc (Obj.cells #[.int .u8 48, .int .u8 (((l.length : Int) + (l2.length : Int)) % 256)] 5)) (((l.length : Int) + (l2.length : Int)) / 256) (((l.length : Int) + (l2.length : Int)) % 256) (by omega) (by have := Hd1.out.1; omega) (by omega) (by omega)
      have HhdE : Hid (hd 48 n = [48, 130, UInt8.ofNat (((l.length : Int) + (l2.length : Int)) / 256).toNat, UInt8.ofNat (((l.length : Int) + (l2.length : Int)) % 256).toNat]) := by show _ = _; rw [Hhd.out, if_neg (by omega), if_neg (by omega), Hd1.out.1, Hd1.out.2, Int.toNat_natCast, Int.toNat_natCast]
      have HBw : Below w3.heap.size w3 ((w3.alloc (Obj.cells #[.int .u8 48, .int .u8 (((l.length : Int) + (l2.length : Int)) % 256)] 5)).alloc (Obj.cells #[.int .u8 48, .int .u8 130, .int .u8 (((l.length : Int) + (l2.length : Int)) / 256), .int .u8 (((l.length : Int) + (l2.length : Int)) % 256)] 5)) := (alloc_below w3 _).trans ((alloc_below (w3.alloc (Obj.cells #[.int .u8 48, .int .u8 (((l.length : Int) + (l2.length : Int)) % 256)] 5)) _).mono (by rw [alloc_size]; omega))
      have HOH : Hid (Ob w3.heap.size w3 ((w3.alloc (Obj.cells #[.int .u8 48, .int .u8 (((l.length : Int) + (l2.length : Int)) % 256)] 5)).alloc (Obj.cells #[.int .u8 48, .int .u8 130, .int .u8 (((l.length : Int) + (l2.length : Int)) / 256), .int .u8 (((l.length : Int) + (l2.length : Int)) % 256)] 5)) (.slice (some ⟨w3.heap.size + 1, 0, none⟩) 4 4) (hd 48 n)) := ⟨by rw [HhdE.out]; have := own_base (base' := w3.heap.size) HOw (by rw [alloc_size]; omega); rw [alloc_size] at this; exact this, HBw, Ku.of_below HBw⟩
      have HKh : Hid ((hd 48 n).length = 4) := by show _ = _; rw [HhdE.out]; rfl
      have hdb : ((l.length : Int) + (l2.length : Int)) / 256 < 256 := by have := Hd1.out.1; omega
      clear HOw Hhd HhdE HBw
      go_wp2
      generalize ((w3.alloc (Obj.cells #[.int .u8 48, .int .u8 (((l.length : Int) + (l2.length : Int)) % 256)] 5)).alloc (Obj.cells #[.int .u8 48, .int .u8 130, .int .u8 (((l.length : Int) + (l2.length : Int)) / 256), .int .u8 (((l.length : Int) + (l2.length : Int)) % 256)] 5)) = wH at *
      go_loopw [12, 14] (fun s12 s14 wr => ∃ k : Nat, s14 = .int .i64 (k : Int) ∧ k ≤ l.length ∧ Hid (Ob w3.heap.size w3 wr s12 (hd 48 n ++ l.take k))) (fun _ s _ => l.length - (intOf s).toNat)
      case atStart => exact ⟨0, rfl, Nat.zero_le _, by rw [List.take_zero, List.append_nil]; exact HOH⟩
      case round =>
        obtain ⟨k, rfl, hk, HO⟩ := hrel
        obtain ⟨va, vn, vc, hv⟩ : ∃ a n c, u12 = .slice a n c := (own_slice HO.out.own).elim fun a h => h.elim fun c e => ⟨a, _, c, e⟩
        subst hv
        by_cases hkl : k < l.length
        · obtain ⟨g, off, hao, _, hcell⟩ := (HR3.out.below HO.out.bel (Nat.le_refl _)).cell (by omega)
          cases hao
          have gx := hcell k hkl
          have Htk : Hid (hd 48 n ++ l.take (k + 1) = hd 48 n ++ l.take k ++ [UInt8.ofNat ((((l.getD k 0).toNat : Nat) : Int)).toNat]) := by
            show _ = _
            rw [List.take_succ_eq_append_getElem hkl, ← getD_eq l 0 hkl, Int.toNat_natCast, u8_of, List.append_assoc]
          have hy := u8_lt (l.getD k 0)
          generalize (l.getD k 0).toNat = y at *
          have hbr := HO.out.bel.size
          have hal : (hd 48 n ++ l.take k).length + 1 ≤ 10000000000 := by rw [List.length_append, List.length_take, HKh.out]; omega
          clear hcell
          go_wp2_with (at_builtin; refine append_ob rfl (.tmp 73) (.tmp 78) rfl w3.heap.size _ (hd 48 n ++ l.take k) rfl (HO.out.alloc hbr _) (some ⟨wr.heap.size, 0, none⟩) 1 1 [UInt8.ofNat ((y : Int)).toNat] rfl rfl (fun e => by cases e) (rd_lit1 wr (y : Int) (by omega) (by omega)) hal (by rw [alloc_size]; omega) ?_; intro v6 w6 hob6)
          have HO6 : Hid (Ob w3.heap.size w3 w6 v6 (hd 48 n ++ l.take (k + 1))) := by rw [Htk.out]; exact hob6
          clear hob6
          obtain ⟨a6, n6, c6, hv6⟩ : ∃ a n c, v6 = .slice a n c := (own_slice HO6.out.own).elim fun a h => h.elim fun c e => ⟨a, _, c, e⟩
          subst hv6
          go_wp2
          go_roundw
          case rel => exact ⟨k + 1, by go_num, by omega, HO6⟩
          case measure => simp [intOf]; omega
        · have HO1 : Hid (Ob w3.heap.size w3 wr (.slice va vn vc) (hd 48 n ++ l ++ l2.take 0)) := by
            have := HO.out
            rw [List.take_of_length_le (by omega)] at this
            rw [List.take_zero, List.append_nil]
            exact this
          clear HO
          go_wp2
          go_loopw [12, 15] (fun s12 s15 wq => ∃ k : Nat, s15 = .int .i64 (k : Int) ∧ k ≤ l2.length ∧ Hid (Ob w3.heap.size w3 wq s12 (hd 48 n ++ l ++ l2.take k))) (fun _ s _ => l2.length - (intOf s).toNat)
          case atStart => exact ⟨0, rfl, Nat.zero_le _, HO1⟩
          case round =>
            obtain ⟨m, rfl, hm, HO⟩ := hrel
            obtain ⟨va, vn, vc, hv⟩ : ∃ a n c, u12 = .slice a n c := (own_slice HO.out.own).elim fun a h => h.elim fun c e => ⟨a, _, c, e⟩
            subst hv
            by_cases hml : m < l2.length
            · obtain ⟨g, off, hbo, _, hcell⟩ := (HQ3.out.below HO.out.bel (Nat.le_refl _)).cell (by omega)
              cases hbo
              have gx := hcell m hml
              have Htk : Hid (hd 48 n ++ l ++ l2.take (m + 1) = hd 48 n ++ l ++ l2.take m ++ [UInt8.ofNat ((((l2.getD m 0).toNat : Nat) : Int)).toNat]) := by
                show _ = _
                rw [List.take_succ_eq_append_getElem hml, ← getD_eq l2 0 hml, Int.toNat_natCast, u8_of]
                simp only [List.append_assoc]
              have hy := u8_lt (l2.getD m 0)
              generalize (l2.getD m 0).toNat = y at *
              have hbr := HO.out.bel.size
              have hal : (hd 48 n ++ l ++ l2.take m).length + 1 ≤ 10000000000 := by rw [List.length_append, List.length_append, List.length_take, HKh.out]; omega
              clear hcell
              go_wp2_with (at_builtin; refine append_ob rfl (.tmp 86) (.tmp 91) rfl w3.heap.size _ (hd 48 n ++ l ++ l2.take m) rfl (HO.out.alloc hbr _) (some ⟨wr.heap.size, 0, none⟩) 1 1 [UInt8.ofNat ((y : Int)).toNat] rfl rfl (fun e => by cases e) (rd_lit1 wr (y : Int) (by omega) (by omega)) hal (by rw [alloc_size]; omega) ?_; intro v6 w6 hob6)
              have HO6 : Hid (Ob w3.heap.size w3 w6 v6 (hd 48 n ++ l ++ l2.take (m + 1))) := by rw [Htk.out]; exact hob6
              clear hob6
              obtain ⟨a6, n6, c6, hv6⟩ : ∃ a n c, v6 = .slice a n c := (own_slice HO6.out.own).elim fun a h => h.elim fun c e => ⟨a, _, c, e⟩
              subst hv6
              go_wp2
              go_roundw
              case rel => exact ⟨m + 1, by go_num, by omega, HO6⟩
              case measure => simp [intOf]; omega
            · have HO2 : Hid (Ob w3.heap.size w3 wr (.slice va vn vc) (seq l l2)) := by
                have := HO.out
                rw [List.take_of_length_le (by omega), List.append_assoc] at this
                rw [Hsq.out]
                exact this
              have hvn : vn = (seq l l2).length := by
                obtain ⟨_, _, e⟩ := own_slice HO2.out.own
                simp only [Value.slice.injEq] at e
                exact e.2.1
              obtain ⟨hrd, hrl, hrc⟩ := own_rd (by have := HO2.out.own; rw [hvn] at this; exact this)
              have Hnn : Hid (va = none → vc = 0) := fun e => by
                rcases HO2.out.own.2 with ⟨h', _⟩ | ⟨g, cp, cur, h', _⟩
                · simp only [Value.slice.injEq] at h'; exact h'.2.2
                · simp only [Value.slice.injEq] at h'; rw [e] at h'; cases h'.1
              have CP : Hid (Calls Tryd.prog 10 #[.slice va vn vc] wr fun e w'' => ∃ lv xs, (e = .returned (.tuple #[lv, .int .i64 (parse (seq l l2)).2.1, .int .i64 ((parse (seq l l2)).2.2 : Nat)]) ∧ Below wr.heap.size wr w'') ∧ Lst wr.heap.size w'' lv xs ∧ es xs = (parse (seq l l2)).1) := by
                rw [hvn]; exact parse_any va vc (seq l l2) wr hrd hrl hrc Hnn.out
              have HBr : Hid (Below w.heap.size w wr) := HB3.out.trans (HO2.out.bel.mono HB3.out.size)
              have HXr : Hid (Row wr ax xs) := HX3.out.below HO2.out.bel (Nat.le_refl _)
              have HYr : Hid (Row wr ay ys) := HY3.out.below HO2.out.bel (Nat.le_refl _)
              clear HO hrd hrl hrc hvn HO2 Hnn
              go_wp2_with fail
              refine CP.out.mono ?_
              rintro e w8 ⟨lv8, zs, ⟨rfl, hB8⟩, hL8, hes8⟩
              obtain ⟨az, cz, hlv8, hRz, _, hcz, _⟩ := hL8.row
              subst hlv8
              have hczm : cz ≤ 9223372036854775807 := by
                rcases hL8.own.2 with ⟨h', _⟩ | ⟨g, cp, cur, h', _, _, _, h2, _⟩
                · simp only [Value.slice.injEq] at h'; omega
                · simp only [Value.slice.injEq] at h'; unfold maxLen at h2; omega
              have HB8 : Hid (Below w.heap.size w w8) := HBr.out.trans (hB8.mono HBr.out.size)
              have HX8 : Hid (Row w8 ax xs) := HXr.out.below hB8 (Nat.le_refl _)
              have HY8 : Hid (Row w8 ay ys) := HYr.out.below hB8 (Nat.le_refl _)
              have HZ8 : Hid (Row w8 az zs) := hRz
              have Hes8 : Hid (es zs = (parse (seq l l2)).1) := hes8
              clear CP hB8 hL8 hRz hes8 HBr HXr HYr
              generalize parse (seq l l2) = P3 at *
              obtain ⟨v3, e3, p3⟩ := P3
              simp only at HPS Hes8 hps ⊢
              have hKI : ((hd 48 n).length : Int) = 4 := by have := HKh.out; omega
              by_cases he11 : e1 = 11
              · subst he11
                have hp1 := (hpa (by decide)).2.2
                rcases HPS.out.1 rfl with ⟨h1, h2⟩ | h1
                · subst h1
                  rw [HKh.out] at h2
                  have hb2 : decide ((p3 : Int) ≤ (p1 : Int) + 4) = true := decide_eq_true (by omega)
                  clear HPS hps hpa hKI
                  go_wp2
                  go_ret
                  exact ⟨rfl, HB8.out⟩
                · subst h1
                  clear HPS hps hpa hKI
                  go_wp2
                  go_ret
                  exact ⟨rfl, HB8.out⟩
              · have hb11 : (e1 == 11) = false := by simp [he11]
                by_cases he1 : e1 = 0
                · subst he1
                  by_cases he2 : e2 = 0
                  · subst he2
                    by_cases he3 : e3 = 0
                    · subst he3
                      have Hv3 : Hid (v3 = ⟨48, [], 2⟩ :: (v1 ++ v2)) := HPS.out.2.2 rfl rfl rfl
                      clear HPS hps hpa hKI
                      have hzl : zs.length = xs.length + ys.length + 1 := by
                        have h1 := congrArg List.length Hes8.out
                        have h2 := congrArg List.length Hes.out
                        have h3 := congrArg List.length Hes2.out
                        rw [es_length, Hv3.out] at h1
                        rw [es_length] at h2 h3
                        simp only [List.length_cons, List.length_append] at h1
                        omega
                      have Hzl : Hid (zs.length = xs.length + ys.length + 1) := hzl
                      rcases HZ8.out.at' with h0 | ⟨gz, oz, haz, hgz, hcz8⟩
                      · rw [h0] at hzl; simp at hzl
                      subst haz
                      have hz0 : zs[0].e = ⟨48, [], 2⟩ := by
                        have h1 := Hes8.out
                        rw [Hv3.out] at h1
                        have h2 : (es zs)[0]? = some ⟨48, [], 2⟩ := by rw [h1]; rfl
                        rw [es, List.getElem?_map, List.getElem?_eq_getElem (by omega)] at h2
                        simpa using h2
                      have cT : w8.cell? ⟨gz, oz, none⟩ = some (.int .i64 48) := by
                        have := (hcz8 0 (by omega)).1
                        rw [hz0] at this
                        simpa using this
                      have cKd : w8.cell? ⟨gz, oz + 2, none⟩ = some (.int .i64 2) := by
                        have := (hcz8 0 (by omega)).2.2
                        rw [hz0] at this
                        simpa using this
                      have hxp : 0 < xs.length ∧ xs.length ≤ l.length := by have := Hxp.out rfl; rw [← Hes.out, es_length] at this; exact this
                      have hyp : 0 < ys.length ∧ ys.length ≤ l2.length := by have := Hyp.out rfl; rw [← Hes2.out, es_length] at this; exact this
                      obtain ⟨hxp, hxq⟩ := hxp
                      obtain ⟨hyp, hyq⟩ := hyp
                      have HS1 : Hid (∀ w', Below w8.heap.size w8 w' → Calls Tryd.prog 14 #[.slice (some ⟨gz, oz + 3, none⟩) xs.length (cz - 1), .slice ax xs.length cx] w' fun e w'' => e = .returned (.bool true) ∧ Below w'.heap.size w' w'') := fun w' hb => by
                        have h1 := same_any (some ⟨gz, oz + 1 * 3, none⟩) ax (cz - 1) cx ((zs.drop 1).take xs.length) xs w' ((row_take (row_drop HZ8.out 1) xs.length).below hb (Nat.le_refl _)) (HX8.out.below hb (Nat.le_refl _)) (by rw [List.length_take]; omega)
                        have h2 : ((zs.drop 1).take xs.length).length = xs.length := by rw [List.length_take, List.length_drop]; have := Hzl.out; omega
                        have h3 : es ((zs.drop 1).take xs.length) = es xs := by
                          unfold es at *
                          rw [List.map_take, List.map_drop, Hes8.out, Hv3.out, List.drop_succ_cons, List.drop_zero, ← Hes.out, List.take_left' (by simp)]
                        rw [h2, decide_eq_true h3] at h1
                        exact h1
                      have HS2 : Hid (∀ w', Below w8.heap.size w8 w' → Calls Tryd.prog 14 #[.slice (some ⟨gz, oz + (xs.length + 1) * 3, none⟩) ys.length (cz - (xs.length + 1)), .slice ay ys.length cy] w' fun e w'' => e = .returned (.bool true) ∧ Below w'.heap.size w' w'') := fun w' hb => by
                        have h1 := same_any (some ⟨gz, oz + (xs.length + 1) * 3, none⟩) ay (cz - (xs.length + 1)) cy (zs.drop (xs.length + 1)) ys w' ((row_drop HZ8.out (xs.length + 1)).below hb (Nat.le_refl _)) (HY8.out.below hb (Nat.le_refl _)) (by rw [List.length_drop]; omega)
                        have h2 : (zs.drop (xs.length + 1)).length = ys.length := by rw [List.length_drop]; have := Hzl.out; omega
                        have h3 : es (zs.drop (xs.length + 1)) = es ys := by
                          unfold es at *
                          rw [List.map_drop, Hes8.out, Hv3.out, List.drop_succ_cons, ← Hes.out, List.drop_left' (by simp), Hes2.out]
                        rw [h2, decide_eq_true h3] at h1
                        exact h1
                      rw [hzl] at hcz ⊢
                      clear hcz8 hz0 hzl Hv3 HX8 HY8 HZ8
                      go_wp2_with fail
                      refine (HS1.out w8 (Below.refl _ _)).mono ?_
                      rintro e w9 ⟨rfl, hB9⟩
                      have HB9 : Hid (Below w8.heap.size w8 w9) := hB9
                      clear hB9 HS1
                      go_wp2_with fail
                      refine (HS2.out w9 HB9.out).mono ?_
                      rintro e wT ⟨rfl, hBT⟩
                      go_wp2
                      go_ret
                      exact ⟨rfl, (HB8.out.trans (HB9.out.mono HB8.out.size)).trans (hBT.mono (Nat.le_trans HB8.out.size HB9.out.size))⟩
                    · have h11 := HPS.out.2.1 rfl rfl he3
                      subst h11
                      clear HPS hps hpa hKI
                      go_wp2
                      go_ret
                      exact ⟨rfl, HB8.out⟩
                  · have hb2 : (e2 != 0) = true := by simp [he2]
                    clear HPS hps hpa hKI
                    go_wp2
                    go_ret
                    exact ⟨rfl, HB8.out⟩
                · have hb2 : (e1 != 0) = true := by simp [he1]
                  clear HPS hps hpa hKI
                  go_wp2
                  go_ret
                  exact ⟨rfl, HB8.out⟩

end Go.Proofs.YtephdffhfkldoaaDoor
