import Derived.Test.YtjncpibhnpoghaaRf7
namespace Go.Proofs.Ytjncpibhnpoghaa
open Go.RowKit

theorem be_bound : ∀ (l : List UInt8) (n : Nat), be n l < (n + 1) * 256 ^ l.length
  | [], n => by simp [be]
  | x :: q, n => by
    have h := be_bound q (n * 256 + x.toNat)
    have hx := u8_lt x
    simp only [be, List.length_cons]
    refine Nat.lt_of_lt_of_le h ?_
    rw [Nat.pow_succ, Nat.mul_comm (256 ^ q.length) 256, ← Nat.mul_assoc]
    exact Nat.mul_le_mul_right _ (by omega)

theorem lenR_bd {r : List UInt8} {n k : Nat} (h : lenR r = (n, k)) : k ≤ 5 ∧ n ≤ 4294967296 ∧ k ≤ r.length := by
  cases r with
  | nil =>
    simp only [lenR, Prod.mk.injEq] at h
    omega
  | cons x q =>
    have hx := u8_lt x
    simp only [lenR] at h
    split at h
    · rename_i h1
      have h1' := (u8_lt_iff x).1 h1
      simp only [Prod.mk.injEq] at h
      simp only [List.length_cons]
      omega
    · split at h
      · simp only [Prod.mk.injEq] at h
        omega
      · rename_i h1 h2
        split at h
        · simp only [Prod.mk.injEq] at h
          omega
        · simp only [Prod.mk.injEq] at h
          obtain ⟨rfl, rfl⟩ := h
          have hb := be_bound (q.take (x.toNat - 128)) 0
          have hp : 256 ^ (q.take (x.toNat - 128)).length ≤ 256 ^ 4 := Nat.pow_le_pow_right (by decide) (by rw [List.length_take]; omega)
          have : (256 : Nat) ^ 4 = 4294967296 := by decide
          simp only [List.length_cons]
          omega

theorem read_step (d : Nat) (hd : d ≤ 32) (ih : ∀ d', d = d' + 1 → RdC d') : RdC d := by
  intro w0 w rb g off cap l lv xs a b op hr hl hc hc2 hS hxs hab hb hop
  rcases Nat.lt_or_ge a b with hlt | hge
  · generalize hL : lenR (sg l (a + 1) b) = nk
    obtain ⟨n, k⟩ := nk
    have hm := meas_lenR (l.getD a 0) (sg l (a + 1) b) hL
    rw [← sg_cons l a b hlt hb, sg_length l (a + 1) b (by omega) hb] at hm
    have hslen := sg_length l a b hab hb
    have hhead := sg_head l a b hlt hb
    by_cases hbad : k = 0 ∨ b - (a + 1) - k < n
    · rw [if_pos hbad] at hm
      obtain ⟨hk5, hn5, _⟩ := lenR_bd hL
      refine (read_none w0 w rb g off cap l lv xs a b n k op hr hl hc hc2 hS hlt hb hL (by rcases hbad with h | h <;> omega) hk5 hn5).mono ?_
      rintro e w' ⟨he, hS'⟩
      rw [pe_none hm]
      exact ⟨he, lv, [], by rw [List.append_nil]; exact hS'⟩
    · rw [if_neg hbad] at hm
      have hk : 1 ≤ k := by omega
      have hk2 := (lenR_bd hL).2.2
      rw [sg_length l (a + 1) b (by omega) hb] at hk2
      have hn : a + 1 + k + n ≤ b := by omega
      have hinn := sg_sg l a b (1 + k) (1 + k + n) (by omega) (by omega)
      rw [show a + (1 + k) = a + 1 + k from by omega, show a + (1 + k + n) = a + 1 + k + n from by omega] at hinn
      cases hcn : con ((l.getD a 0).toNat : Int) with
      | false =>
        rw [pe_prim hm (by rw [hhead]; exact hcn), hhead, hinn, sound_doc _ _ hcn]
        cases hs : tagR ((l.getD a 0).toNat : Int) && contR ((l.getD a 0).toNat : Int) (sg l (a + 1 + k) (a + 1 + k + n)) with
        | false =>
          refine (read_bad w0 w rb g off cap l lv xs a b n k op hr hl hc hc2 hS hlt hb hL hk hn ?_).mono ?_
          · rcases Bool.and_eq_false_iff.1 hs with h | h
            · exact .inl h
            · exact .inr ⟨hcn, h⟩
          · rintro e w' ⟨he, hS'⟩
            exact ⟨he, lv, [], by rw [List.append_nil]; exact hS'⟩
        | true =>
          obtain ⟨h1, h2⟩ := Bool.and_eq_true_iff.1 hs
          refine (read_prim w0 w rb g off cap l lv xs a b n k op hr hl hc hc2 hS hlt hb hL hxs hk hn h1 hcn h2).mono ?_
          rintro e w' ⟨he, lv', y, hS', hy⟩
          exact ⟨he, lv', [y], hS', by simp [es, hy]⟩
      | true =>
        have hsd := sound_cons ((l.getD a 0).toNat : Int) hcn
        cases hs : tagR ((l.getD a 0).toNat : Int) with
        | false =>
          rw [hs] at hsd
          rw [pe_bad hm (by rw [hhead]; exact hcn) (by rw [hhead]; exact hsd)]
          refine (read_bad w0 w rb g off cap l lv xs a b n k op hr hl hc hc2 hS hlt hb hL hk hn (.inl hs)).mono ?_
          rintro e w' ⟨he, hS'⟩
          exact ⟨he, lv, [], by rw [List.append_nil]; exact hS'⟩
        | true =>
          rw [hs] at hsd
          cases d with
          | zero =>
            rw [pe_deep hm (by rw [hhead]; exact hcn) (by rw [hhead]; exact hsd)]
            refine (read_deep w0 w rb g off cap l lv xs a b n k op hr hl hc hc2 hS hlt hb hL hxs hk hn hs hcn (by omega)).mono ?_
            rintro e w' ⟨he, lv', y, hS'⟩
            exact ⟨he, lv', [y], hS'⟩
          | succ d' =>
            refine (read_con d' (by omega) (ih d' rfl) w0 w rb g off cap l lv xs a b n k op hr hl hc hc2 hS hlt hb hL hxs hk hn hs hcn (by omega) (a + 1 + k) rfl).mono ?_
            rintro e w' ⟨i, he, ⟨rfl, m, K, ys, lv', _, _, hS', _, hK⟩ | ⟨c, ys, lv', _, hS', hK⟩⟩
            · rw [sg_nil] at hK
              have hK2 : pk (pe d') (sg l (a + 1 + k) (a + 1 + k + i)).length (sg l (a + 1 + k) (a + 1 + k + i)) = .ok (es ys, m) := by
                rw [hK]
                cases K <;> simp [pk, comb]
              rw [← hinn] at hK2
              rw [pe_con_ok hm (by rw [hhead]; exact hcn) (by rw [hhead]; exact hsd) hK2, hhead]
              refine ⟨by rw [he, show a + (1 + k + i) = a + 1 + k + i from by omega], lv', _, hS', ?_⟩
              simp only [es, List.map_cons]
            · rw [← hinn] at hK
              rw [pe_con_err hm (by rw [hhead]; exact hcn) (by rw [hhead]; exact hsd) hK]
              refine ⟨by rw [he, show a + (1 + k + i) = a + 1 + k + i from by omega], lv', ys, ?_⟩
              rw [show a + (1 + k + i) = a + 1 + k + i from by omega]
              exact hS'
  · obtain rfl : a = b := by omega
    refine (read_end w0 w rb _ lv xs a op hS).mono ?_
    rintro e w' ⟨he, hS'⟩
    rw [sg_nil, pe_none (by rfl)]
    exact ⟨he, lv, [], by rw [List.append_nil]; exact hS'⟩

theorem read_any : ∀ d, d ≤ 32 → RdC d := by
  intro d
  induction d with
  | zero => intro h; exact read_step 0 h (fun d' e => by omega)
  | succ d ih => intro h; exact read_step (d + 1) h (fun d' e => (show d = d' by omega) ▸ ih (by omega))

set_option maxRecDepth 100000 in
set_option maxHeartbeats 2000000 in
theorem rparse_any (ao : Option Addr) (cap : Nat) (l : List UInt8) (w : World) (hr : Rd w ao l) (hc : l.length ≤ cap) (hc2 : cap ≤ 9223372036854775807) :
    Calls Try.prog 7 #[.slice ao l.length cap] w fun e w' => ∃ lv xs, (e = .returned (.tuple #[lv, .int .i64 (parse l).2.1, .int .i64 ((parse l).2.2 : Nat)]) ∧ Below w.heap.size w w') ∧ Lst w.heap.size w' lv xs ∧ es xs = (parse l).1 := by
  by_cases hl : 65536 < l.length
  · have HP : Hid (parse l = ([], 10, 0)) := if_pos hl
    go_enter Try.func7, Try.ntmps7
    go_wp2
    go_ret3
    rw [HP.out]
    exact ⟨_, [], ⟨rfl, Below.refl _ _⟩, Lst.nil _ _, rfl⟩
  · have HSt : Hid (SR w (w.alloc (Obj.cells #[.slice ao l.length cap, .slice none 0 0, .int .i64 0, .int .i64 0] 43)) w.heap.size (.slice ao l.length cap) (.slice none 0 0) 0 0 []) :=
      ⟨alloc_below _ _, Nat.le_refl _, alloc_bl w [_, _, _, _] _, World.ownsRow_nil _ _ _ _, (fun x hx => by cases hx), List.Pairwise.nil, (fun x hx => by cases hx)⟩
    have hsg : sg l 0 l.length = l := by unfold sg; simp
    have C : Calls Try.prog 22 #[.pointer (some ⟨w.heap.size, 0, none⟩), .int .i64 0, .int .i64 (l.length : Int), .int .i64 0] (w.alloc (Obj.cells #[.slice ao l.length cap, .slice none 0 0, .int .i64 0, .int .i64 0] 43)) fun e w' => RdP w w.heap.size (.slice ao l.length cap) [] 0 (pe 32 l) e w' := by
      rcases Nat.eq_zero_or_pos l.length with h0 | h0
      · have hnl : l = [] := List.length_eq_zero_iff.1 h0
        subst hnl
        refine (read_end w _ w.heap.size _ _ [] 0 0 HSt.out).mono ?_
        rintro e w' ⟨he, hS'⟩
        rw [pe_none (by rfl)]
        exact ⟨he, _, [], hS'⟩
      · obtain ⟨g, off, rfl, _, _⟩ := hr.cell h0
        have := read_any 32 (Nat.le_refl _) w _ w.heap.size g off cap l _ [] 0 l.length 0 hr (by omega) hc hc2 HSt.out (by simp; omega) (Nat.zero_le _) (Nat.le_refl _) rfl
        rw [hsg] at this
        exact this
    have HP : Hid (parse l = match pe 32 l with | .error (p, c) => ([], c, p) | .ok (ts, n) => if n < l.length then ([], 80, n) else (ts, 0, 0)) := if_neg hl
    have hcode := pe_code 32 l
    have hcnt := fun ts n => pe_count (d := 32) (l := l) (ts := ts) (n := n) (by omega)
    have HC : Hid (Calls Try.prog 22 #[.pointer (some ⟨w.heap.size, 0, none⟩), .int .i64 0, .int .i64 (l.length : Int), .int .i64 0] (w.alloc (Obj.cells #[.slice ao l.length cap, .slice none 0 0, .int .i64 0, .int .i64 0] 43)) fun e w' => RdP w w.heap.size (.slice ao l.length cap) [] 0 (pe 32 l) e w') := C
    clear C hsg HSt
    go_enter Try.func7, Try.ntmps7
    go_wp2_with fail
    refine HC.out.mono ?_
    intro e w1 hres
    clear HC
    generalize pe 32 l = r at *
    match r, hres, HP, hcode, hcnt with
    | .error (p, c), hres, HP, hcode, _ =>
      obtain ⟨rfl, lv', ys, hS⟩ := hres
      have hcne : c ≠ 0 := by have := hcode p c rfl; omega
      have hcb : (c == 0) = false := by simp [hcne]
      have HP2 : Hid (parse l = ([], c, p)) := HP.out
      rw [Nat.zero_add] at *
      have c2 := hS.rd.cell 2 (by simp)
      have c3 := hS.rd.cell 3 (by simp)
      simp only [List.getElem_cons_zero, List.getElem_cons_succ] at c2 c3
      have HB : Hid (Below w.heap.size w w1) := hS.bel
      clear HP hcode hcnt hS
      go_wp2
      go_quiet (fail)
      go_wp2
      go_ret3
      rw [HP2.out]
      exact ⟨_, [], ⟨rfl, below_drewN HB.out _⟩, Lst.nil _ _, rfl⟩
    | .ok (ts, n), hres, HP, hcode, hcnt =>
      obtain ⟨rfl, lv', ys, hS, hys⟩ := hres
      obtain ⟨_, hn2, hn3⟩ := hcnt ts n rfl
      have c1 := hS.rd.cell 1 (by simp)
      have c2 := hS.rd.cell 2 (by simp)
      simp only [List.getElem_cons_zero, List.getElem_cons_succ] at c1 c2
      have HP2 : Hid (parse l = if n < l.length then ([], 80, n) else (ts, 0, 0)) := HP.out
      have HS : Hid (SR w w1 w.heap.size (.slice ao l.length cap) lv' 0 0 ([] ++ ys)) := hS
      obtain ⟨aL, kL, rfl⟩ := own_slice hS.own
      clear HP hcode hcnt hS
      rw [Nat.zero_add]
      by_cases hlt : n < l.length
      · rw [if_pos hlt] at HP2
        go_wp2
        go_ret3
        rw [HP2.out]
        exact ⟨_, [], ⟨rfl, HS.out.bel⟩, Lst.nil _ _, rfl⟩
      · rw [if_neg hlt] at HP2
        obtain rfl : n = l.length := by omega
        go_wp2
        go_ret3
        rw [HP2.out]
        exact ⟨_, ys, ⟨rfl, HS.out.bel⟩, ⟨HS.out.own, HS.out.dat, HS.out.sep, HS.out.num⟩, hys⟩

end Go.Proofs.Ytjncpibhnpoghaa
