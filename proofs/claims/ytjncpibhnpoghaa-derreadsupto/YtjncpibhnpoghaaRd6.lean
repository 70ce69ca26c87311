import Derived.Test.YtjncpibhnpoghaaRd5
namespace Go.Proofs.Ytjncpibhnpoghaa
open Go.RowKit

theorem pe_none {d : Nat} {l : List UInt8} (hm : meas l = none) : pe d l = .error (0, 80) := by
  cases d <;> simp only [pe, hm]
theorem pe_prim {d : Nat} {l : List UInt8} {h wl : Nat} (hm : meas l = some (h, wl)) (hc : con ((l.getD 0 0).toNat : Int) = false) : pe d l = if sound ⟨((l.getD 0 0).toNat : Int), inn l h wl, 0⟩ then .ok ([⟨((l.getD 0 0).toNat : Int), inn l h wl, 0⟩], wl) else .error (0, 80) := by
  cases d <;> (simp only [pe, hm, hc]; rfl)
theorem pe_bad {d : Nat} {l : List UInt8} {h wl : Nat} (hm : meas l = some (h, wl)) (hc : con ((l.getD 0 0).toNat : Int) = true) (hs : sound ⟨((l.getD 0 0).toNat : Int), [], 0⟩ = false) : pe d l = .error (0, 80) := by
  cases d <;> (simp only [pe, hm, hc, hs]; rfl)
theorem pe_deep {l : List UInt8} {h wl : Nat} (hm : meas l = some (h, wl)) (hc : con ((l.getD 0 0).toNat : Int) = true) (hs : sound ⟨((l.getD 0 0).toNat : Int), [], 0⟩ = true) : pe 0 l = .error (0, 11) := by
  simp only [pe, hm, hc, hs]; rfl
theorem pe_con_err {d : Nat} {l : List UInt8} {h wl : Nat} {p : Nat} {c : Int} (hm : meas l = some (h, wl)) (hc : con ((l.getD 0 0).toNat : Int) = true) (hs : sound ⟨((l.getD 0 0).toNat : Int), [], 0⟩ = true) (hk : pk (pe d) (inn l h wl).length (inn l h wl) = .error (p, c)) : pe (d + 1) l = .error (h + p, c) := by
  simp only [pe, hm, hc, hs, hk]; rfl
theorem pe_con_ok {d : Nat} {l : List UInt8} {h wl m : Nat} {us : List E} (hm : meas l = some (h, wl)) (hc : con ((l.getD 0 0).toNat : Int) = true) (hs : sound ⟨((l.getD 0 0).toNat : Int), [], 0⟩ = true) (hk : pk (pe d) (inn l h wl).length (inn l h wl) = .ok (us, m)) : pe (d + 1) l = .ok (⟨((l.getD 0 0).toNat : Int), [], m⟩ :: us, wl) := by
  simp only [pe, hm, hc, hs, hk]; rfl

theorem element_step (d : Nat) (hd : d ≤ 32) (ih : ∀ d', d = d' + 1 → KiC d') : ElC d := by
  intro w0 w rb ba cap l lv xs a b op hr hl hc hc2 hnil hS hxs hab hb hop
  generalize hm : meas (sg l a b) = q
  match q, hm with
  | none, hm =>
    refine (element_none w0 w rb ba cap l lv xs a b op hr hl hc hc2 hnil hS hab hb hm).mono ?_
    rintro e w' ⟨he, hB⟩
    rw [pe_none hm]
    exact ⟨hB, he⟩
  | some (h, wl), hm =>
    have hlt : a < b := by
      rcases Nat.lt_or_ge a b with h1 | h1
      · exact h1
      · obtain rfl : a = b := by omega
        rw [sg_nil] at hm
        simp [meas] at hm
    have hslen := sg_length l a b hab hb
    obtain ⟨q1, hwl, hh, hwle, q2, q3⟩ := meas_split hm (by omega)
    have hhead := sg_head l a b hlt hb
    have hinn := sg_sg l a b h wl (by omega) (by omega)
    obtain ⟨g, off, rfl, _, _⟩ := (hr.below hS.bel (Nat.le_refl _)).cell (by omega)
    cases hcn : con ((l.getD a 0).toNat : Int) with
    | false =>
      refine (element_prim w0 w rb g off cap l lv xs a b h wl (a + h) (a + wl) op hr hl hc hc2 hS hxs hlt hb hm rfl rfl hcn).mono ?_
      rintro e w' ⟨hB, h1, h2⟩
      refine ⟨hB, ?_⟩
      rw [pe_prim hm (by rw [hhead]; exact hcn), hhead, hinn]
      cases hs : sound ⟨((l.getD a 0).toNat : Int), sg l (a + h) (a + wl), 0⟩ with
      | false => exact h1 hs
      | true =>
        obtain ⟨he, lv', y, hS', hy⟩ := h2 hs
        exact ⟨he, lv', [y], hS', by simp [es, hy]⟩
    | true =>
      cases hs : sound ⟨((l.getD a 0).toNat : Int), [], 0⟩ with
      | false =>
        refine (element_bad w0 w rb g off cap l lv xs a b h wl (a + h) (a + wl) op hr hl hc hc2 hS hxs hlt hb hm rfl rfl hcn hs).mono ?_
        rintro e w' ⟨hB, he⟩
        rw [pe_bad hm (by rw [hhead]; exact hcn) (by rw [hhead]; exact hs)]
        exact ⟨hB, he⟩
      | true =>
        cases d with
        | zero =>
          refine (element_deep w0 w rb g off cap l lv xs a b h wl (a + h) (a + wl) op hr hl hc hc2 hS hxs hlt hb hm rfl rfl hcn hs (by omega)).mono ?_
          rintro e w' ⟨hB, he⟩
          rw [pe_deep hm (by rw [hhead]; exact hcn) (by rw [hhead]; exact hs)]
          exact ⟨hB, he⟩
        | succ d' =>
          refine element_go w0 w rb g off cap l lv xs a b h wl (a + h) (a + wl) op hr hl hc hc2 hS hxs hlt hb hm rfl rfl hcn hs (by omega) (by omega) _ ?_
          intro w' lv' y hS' hy
          have hK := ih d' rfl w0 w' rb _ cap l lv' xs y (a + h) (a + wl) (op + 1) hr hl hc hc2 (fun e => by cases e) hS' (by rw [hy]) (by omega) (by omega) (by omega) (by omega)
          refine hK.mono ?_
          rintro e w'' ⟨hB, hres⟩
          generalize hk : pk (pe d') (sg l (a + h) (a + wl)).length (sg l (a + h) (a + wl)) = r at hres
          rw [← hinn] at hk
          match r, hk, hres with
          | .error (p, c), hk, hres =>
            refine ⟨⟨_, _, hres⟩, hB, ?_⟩
            rw [pe_con_err hm (by rw [hhead]; exact hcn) (by rw [hhead]; exact hs) hk]
            simp only at hres ⊢
            rw [hres, Nat.add_assoc]
          | .ok (us, m), hk, hres =>
            obtain ⟨he, lv2, ys, hS2, hys⟩ := hres
            refine ⟨⟨_, _, he⟩, hB, ?_⟩
            rw [pe_con_ok hm (by rw [hhead]; exact hcn) (by rw [hhead]; exact hs) hk, hhead]
            refine ⟨he, lv2, _, hS2, ?_⟩
            simp only [es, List.map_cons, hy]
            rw [← hys]; rfl

theorem element_any : ∀ d, d ≤ 32 → ElC d := by
  intro d
  induction d with
  | zero => intro h; exact element_step 0 h (fun d' e => by omega)
  | succ d ih => intro h; exact element_step (d + 1) h (fun d' e => (show d = d' by omega) ▸ kids_of d (by omega) (ih (by omega)))

/-- A list of one's own. -/
structure Lst (base : Nat) (w : World) (v : Value) (xs : List X) : Prop where
  own : w.ownsRow base 36 3 v xs.length (xCs xs)
  dat : ∀ x ∈ xs, w.ownsRow base 5 1 (xD x) x.e.data.length (x.e.data.map B)
  sep : xs.Pairwise fun x y => ∀ g, (xD x).ownBlock = some g → (xD y).ownBlock ≠ some g
  num : ∀ x ∈ xs, 0 ≤ x.e.kids ∧ x.e.kids ≤ 65536

theorem Lst.nil (base : Nat) (w : World) : Lst base w (.slice none 0 0) [] := ⟨World.ownsRow_nil _ _ _ _, (fun x hx => by cases hx), List.Pairwise.nil, (fun x hx => by cases hx)⟩
theorem Lst.below {base k : Nat} {w w' : World} {v : Value} {xs : List X} (h : Lst base w v xs) (hb : Below k w w') (hk : w.heap.size ≤ k) : Lst base w' v xs :=
  ⟨own_below h.own hb hk, fun x hx => own_below (h.dat x hx) hb hk, h.sep, h.num⟩

set_option maxRecDepth 100000 in
set_option maxHeartbeats 2000000 in
theorem parse_any (ao : Option Addr) (cap : Nat) (l : List UInt8) (w : World) (hr : Rd w ao l) (hc : l.length ≤ cap) (hc2 : cap ≤ 9223372036854775807) (hnil : ao = none → cap = 0) :
    Calls Try.prog 6 #[.slice ao l.length cap] w fun e w' => ∃ lv xs, (e = .returned (.tuple #[lv, .int .i64 (parse l).2.1, .int .i64 ((parse l).2.2 : Nat)]) ∧ Below w.heap.size w w') ∧ Lst w.heap.size w' lv xs ∧ es xs = (parse l).1 := by
  by_cases hl : 65536 < l.length
  · have HP : Hid (parse l = ([], 10, 0)) := if_pos hl
    go_enter Try.func6, Try.ntmps6
    go_wp2
    go_ret3
    rw [HP.out]
    exact ⟨_, [], ⟨rfl, Below.refl _ _⟩, Lst.nil _ _, rfl⟩
  · have hE := element_any 32 (Nat.le_refl _)
    have HSt : Hid (St w (w.alloc (Obj.cells #[.slice ao l.length cap, .slice none 0 0] 38)) w.heap.size (.slice ao l.length cap) (.slice none 0 0) []) :=
      ⟨alloc_below _ _, Nat.le_refl _, alloc_bl w [_, _] _, World.ownsRow_nil _ _ _ _, (fun x hx => by cases hx), List.Pairwise.nil, (fun x hx => by cases hx)⟩
    have C := hE w (w.alloc (Obj.cells #[.slice ao l.length cap, .slice none 0 0] 38)) w.heap.size ao cap l (.slice none 0 0) [] 0 l.length 0 hr (by omega) hc hc2 hnil HSt.out (by simp; omega) (Nat.zero_le _) (Nat.le_refl _) rfl
    have hsg : sg l 0 l.length = l := by unfold sg; simp
    rw [hsg] at C
    have HP : Hid (parse l = match pe 32 l with | .error (p, c) => ([], c, p) | .ok (ts, n) => if n < l.length then ([], 80, n) else (ts, 0, 0)) := if_neg hl
    have hcode := pe_code 32 l
    have hcnt := fun ts n => pe_count (d := 32) (l := l) (ts := ts) (n := n) (by omega)
    have HC : Hid (Calls Try.prog 21 #[.pointer (some ⟨w.heap.size, 0, none⟩), .int .i64 0, .int .i64 (l.length : Int), .int .i64 0] (w.alloc (Obj.cells #[.slice ao l.length cap, .slice none 0 0] 38)) fun e w' => ElP w w.heap.size (.slice ao l.length cap) [] 0 (pe 32 l) e w') := C
    clear C hE hsg HSt
    go_enter Try.func6, Try.ntmps6
    go_wp2_with fail
    refine HC.out.mono ?_
    rintro e w1 ⟨hB, hres⟩
    clear HC
    generalize pe 32 l = r at *
    match r, hres, HP, hcode, hcnt with
    | .error (p, c), hres, HP, hcode, _ =>
      simp only at hres
      subst hres
      have hcne : c ≠ 0 := by have := hcode p c rfl; omega
      have hcb : (c == 0) = false := by simp [hcne]
      have HP2 : Hid (parse l = ([], c, p)) := HP.out
      clear HP hcode hcnt
      rw [Nat.zero_add]
      unfold two
      go_wp2
      go_ret3
      rw [HP2.out]
      exact ⟨_, [], ⟨rfl, hB⟩, Lst.nil _ _, rfl⟩
    | .ok (ts, n), hres, HP, hcode, hcnt =>
      obtain ⟨rfl, lv', ys, hS, hys⟩ := hres
      obtain ⟨_, hn2, hn3⟩ := hcnt ts n rfl
      have c1 := hS.rd.cell 1 (by simp)
      simp only [List.getElem_cons_zero, List.getElem_cons_succ] at c1
      have HP2 : Hid (parse l = if n < l.length then ([], 80, n) else (ts, 0, 0)) := HP.out
      have HS : Hid (St w w1 w.heap.size (.slice ao l.length cap) lv' ([] ++ ys)) := hS
      obtain ⟨aL, kL, rfl⟩ := own_slice hS.own
      clear HP hcode hcnt hS
      rw [Nat.zero_add]
      unfold two
      by_cases hlt : n < l.length
      · rw [if_pos hlt] at HP2
        go_wp2
        go_ret3
        rw [HP2.out]
        exact ⟨_, [], ⟨rfl, hB⟩, Lst.nil _ _, rfl⟩
      · rw [if_neg hlt] at HP2
        obtain rfl : n = l.length := by omega
        go_wp2
        go_ret3
        rw [HP2.out]
        exact ⟨_, ys, ⟨rfl, hB⟩, ⟨HS.out.own, HS.out.dat, HS.out.sep, HS.out.num⟩, hys⟩

end Go.Proofs.Ytjncpibhnpoghaa
