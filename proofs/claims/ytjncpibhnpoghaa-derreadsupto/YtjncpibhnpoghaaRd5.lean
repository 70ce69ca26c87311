import Derived.Test.YtjncpibhnpoghaaRd4
namespace Go.Proofs.Ytjncpibhnpoghaa
open Go.RowKit

/-- What has been read, and what comes of the rest. -/
def comb (i : Nat) (us : List E) (m : Nat) : Res → Res
  | .error (p, c) => .error (i + p, c)
  | .ok (vs, q) => .ok (us ++ vs, m + q)

theorem comb_step (i n : Nat) (us ts : List E) (m : Nat) (r : Res) :
    comb i us m (match r with | .error (p, c) => .error (n + p, c) | .ok (vs, q) => .ok (ts ++ vs, q + 1)) = comb (i + n) (us ++ ts) (m + 1) r := by
  match r with
  | .error (p, c) => simp only [comb]; rw [Nat.add_assoc]
  | .ok (vs, q) => simp only [comb]; rw [List.append_assoc]; congr 2; omega

/-- What reading what stands in an element comes to. -/
def KiP (w0 : World) (rb : Nat) (bv : Value) (xs : List X) (x : X) (a b : Nat) (r : Res) (e : Ending) (w' : World) : Prop :=
  Below w0.heap.size w0 w' ∧ match r with
  | .error (p, c) => e = .returned (two (a + p : Nat) c)
  | .ok (us, m) => e = .returned (two (b : Nat) 0) ∧ ∃ lv' ys, St w0 w' rb bv lv' (xs ++ ⟨⟨x.e.tag, x.e.data, (m : Int)⟩, x.a, x.c⟩ :: ys) ∧ es ys = us

def KiC (d : Nat) : Prop := ∀ (w0 w : World) (rb : Nat) (ba : Option Addr) (cap : Nat) (l : List UInt8) (lv : Value) (xs : List X) (x : X) (a b : Nat) (op : Int),
  Rd w0 ba l → l.length ≤ 65536 → l.length ≤ cap → cap ≤ 9223372036854775807 → (ba = none → cap = 0) → St w0 w rb (.slice ba l.length cap) lv (xs ++ [x]) → x.e.kids = 0 → xs.length + 1 + (b - a) ≤ 65536 → a ≤ b → b ≤ l.length → op = 32 - (d : Int) →
  Calls Try.prog 35 #[.pointer (some ⟨rb, 0, none⟩), .int .i64 (a : Int), .int .i64 (b : Int), .int .i64 op] w fun e w' => KiP w0 rb (.slice ba l.length cap) xs x a b (pk (pe d) (sg l a b).length (sg l a b)) e w'

theorem els_len {P : List E → List UInt8 → Prop} (hP : ∀ ts bs, P ts bs → ts.length ≤ bs.length) {n : Nat} {ts : List E} {bs : List UInt8} (h : Els P n ts bs) : ts.length ≤ bs.length := by
  induction h with
  | nil => exact Nat.le_refl _
  | cons h1 h2 ih => have := hP _ _ h1; simp only [List.length_append]; omega
theorem El_len : ∀ (d : Nat) (ts : List E) (bs : List UInt8), El d ts bs → ts.length ≤ bs.length := by
  intro d
  induction d with
  | zero =>
    rintro ts bs ⟨t, rfl, _, _, rfl⟩
    have := (hd_length t.tag t.data.length).1
    simp only [List.length_append, List.length_cons, List.length_nil]; omega
  | succ d ih =>
    rintro ts bs (⟨t, rfl, _, _, rfl⟩ | ⟨t, q, body, rfl, _, _, rfl, hk⟩)
    · have := (hd_length t.tag t.data.length).1
      simp only [List.length_append, List.length_cons, List.length_nil]; omega
    · have h1 := els_len ih hk
      have := (hd_length t.tag body.length).1
      simp only [List.length_append, List.length_cons]; omega
theorem pe_count {d : Nat} {l : List UInt8} {ts : List E} {n : Nat} (hl : l.length ≤ 65536) (h : pe d l = .ok (ts, n)) : ts.length ≤ n ∧ n ≤ l.length ∧ 0 < n := by
  obtain ⟨h1, h2, h3⟩ := pe_sound d l ts n hl h
  have := El_len _ _ _ h3
  rw [List.length_take] at this
  omega

theorem own_some {w : World} {base n size : Nat} {e : TypeId} {v : Value} {xs : List Value} (h : w.ownsRow base e size v n xs) (hn : 0 < n) : ∃ g c, v = .slice (some ⟨g, 0, none⟩) n c ∧ n ≤ c ∧ c ≤ 9223372036854775807 := by
  rcases h.2 with ⟨h', h0⟩ | ⟨g, cap, cur, h', _, _, h1, h2, _⟩
  · omega
  · exact ⟨_, _, h', h1, by unfold maxLen at h2; omega⟩

theorem es_append (xs ys : List X) : es (xs ++ ys) = es xs ++ es ys := by simp [es]

set_option maxRecDepth 100000 in
set_option maxHeartbeats 4000000 in
theorem kids_of (d : Nat) (hd : d ≤ 32) (hE : ElC d) : KiC d := by
  intro w0 w rb ba cap l lv xs x a b op hr hl hc hc2 hnil hS hx0 hxs hab hb hop
  have HE : Hid (ElC d) := hE
  have HR0 : Hid (Rd w0 ba l) := hr
  have Hnil : Hid (ba = none → cap = 0) := hnil
  have hsl := sg_length l a b hab hb
  have HSL : Hid ((sg l a b).length = b - a) := hsl
  have c1 := hS.rd.cell 1 (by simp)
  simp only [List.getElem_cons_zero, List.getElem_cons_succ] at c1
  obtain ⟨la, lc, hlv⟩ := own_slice hS.own
  have hlen : (xs ++ [x]).length = xs.length + 1 := by simp
  rw [hlen] at hlv
  rw [hlv] at c1 hS
  have HS0 : Hid (St w0 w rb (.slice ba l.length cap) (.slice la (xs.length + 1) lc) (xs ++ ⟨⟨x.e.tag, x.e.data, ((0 : Nat) : Int)⟩, x.a, x.c⟩ :: [])) := by
    have : x = ⟨⟨x.e.tag, x.e.data, ((0 : Nat) : Int)⟩, x.a, x.c⟩ := by
      obtain ⟨⟨t, dd, k⟩, aa, cc⟩ := x
      simp only at hx0
      rw [hx0]; rfl
    rw [← this]; exact hS
  have Hop : Hid (op = 32 - (d : Int)) := hop
  have ho1 : 0 ≤ op := by omega
  have ho2 : op ≤ 32 := by omega
  clear hE hr hnil hsl hlv hlen hS hx0 hop lv
  go_enter Try.func35, Try.ntmps35
  go_wp2
  go_loopw [1] (fun s1 wr => ∃ (i m K : Nat) (ys : List X) (lv' : Value), s1 = .int .i64 ((a + i : Nat) : Int) ∧ a + i ≤ b ∧ Hid (m ≤ i ∧ ys.length ≤ i) ∧ Hid (St w0 wr rb (.slice ba l.length cap) lv' (xs ++ ⟨⟨x.e.tag, x.e.data, (m : Int)⟩, x.a, x.c⟩ :: ys)) ∧ Hid (b - (a + i) ≤ K ∧ pk (pe d) (sg l a b).length (sg l a b) = comb i (es ys) m (pk (pe d) K (sg l (a + i) b)))) (fun s _ => b - (intOf s).toNat)
  case atStart =>
    refine ⟨0, 0, (sg l a b).length, [], _, by simp, by omega, ⟨Nat.le_refl _, Nat.le_refl _⟩, HS0, by rw [HSL.out]; simp, ?_⟩
    rw [Nat.add_zero]
    generalize pk (pe d) (sg l a b).length (sg l a b) = r
    match r with
    | .error (p, c) => simp [comb]
    | .ok (us, m) => simp [comb, es]
  case round =>
    obtain ⟨i, m, K, ys, lv', rfl, hib, Hm, HS, HK⟩ := hrel
    by_cases hlt : a + i < b
    · obtain ⟨K', rfl⟩ : ∃ K', K = K' + 1 := ⟨K - 1, by have := HK.out.1; omega⟩
      have hne : sg l (a + i) b ≠ [] := fun e => by
        have := sg_length l (a + i) b (by omega) hb
        rw [e] at this
        simp at this
        omega
      have C := HE.out w0 wr rb ba cap l lv' (xs ++ ⟨⟨x.e.tag, x.e.data, (m : Int)⟩, x.a, x.c⟩ :: ys) (a + i) b op HR0.out hl hc hc2 Hnil.out HS.out (by have := Hm.out; simp only [List.length_append, List.length_cons]; omega) (by omega) hb Hop.out
      have HKe : Hid (∀ p c, pe d (sg l (a + i) b) = .error (p, c) → pk (pe d) (sg l a b).length (sg l a b) = .error (i + p, c)) := fun p c h => by
        rw [HK.out.2, pk, if_neg hne, h]; rfl
      have HKo : Hid (∀ ts n, pe d (sg l (a + i) b) = .ok (ts, n) → pk (pe d) (sg l a b).length (sg l a b) = comb (i + n) (es ys ++ ts) (m + 1) (pk (pe d) K' (sg l (a + (i + n)) b))) := fun ts n h => by
        rw [HK.out.2, pk, if_neg hne, h]
        simp only [sg_drop]
        rw [Nat.add_assoc]
        exact comb_step _ _ _ _ _ _
      have hKK := HK.out.1
      have hcnt := fun ts n => pe_count (d := d) (l := sg l (a + i) b) (ts := ts) (n := n) (by rw [sg_length l (a + i) b (by omega) hb]; omega)
      rw [sg_length l (a + i) b (by omega) hb] at hcnt
      have hcode := pe_code d (sg l (a + i) b)
      clear HK hne HE
      generalize pe d (sg l (a + i) b) = r at *
      go_wp2_with fail
      refine C.mono ?_
      rintro e w1 ⟨hbel, hres⟩
      match r, hres, HKe, HKo, hcnt, hcode with
      | .error (p, c), hres, HKe, HKo, _, hcode =>
        simp only at hres
        subst hres
        have HR : Hid (pk (pe d) (sg l a b).length (sg l a b) = .error (i + p, c)) := HKe.out p c rfl
        have hcne : c ≠ 0 := by have := hcode p c rfl; omega
        clear hcode
        clear HKe HKo C
        unfold two
        go_wp2
        go_ret2
        rw [HR.out]
        refine ⟨hbel, ?_⟩
        show Ending.returned (.tuple #[.int .i64 ((a : Int) + (i : Int) + (p : Int)), .int .i64 c]) = .returned (two ((a + (i + p) : Nat) : Int) c)
        rw [show ((a + (i + p) : Nat) : Int) = (a : Int) + (i : Int) + (p : Int) from by omega]
        rfl
      | .ok (ts, n), hres, HKe, HKo, hcnt, _ =>
        obtain ⟨hn1, hn2, hn3⟩ := hcnt ts n rfl
        obtain ⟨rfl, lv2, zs, hS2, hzs⟩ := hres
        have HR := HKo.out ts n rfl
        have HR2 : Hid (pk (pe d) (sg l a b).length (sg l a b) = comb (i + n) (es (ys ++ zs)) (m + 1) (pk (pe d) K' (sg l (a + (i + n)) b))) := by rw [es_append, hzs]; exact HR
        rw [List.append_assoc, List.cons_append] at hS2
        have Hzs : Hid (zs.length ≤ n) := by
          have := congrArg List.length hzs
          rw [es_length] at this
          show zs.length ≤ n
          omega
        have c1' := hS2.rd.cell 1 (by simp)
        simp only [List.getElem_cons_zero, List.getElem_cons_succ] at c1'
        obtain ⟨gl, cl, hlv, hlc1, hlc2⟩ := own_some hS2.own (by simp only [List.length_append, List.length_cons]; omega)
        subst hlv
        have cK : w1.cell? ⟨gl, xs.length * 3 + 2, none⟩ = some (.int .i64 (m : Int)) := by
          rw [hS2.own.cellAt _ (by simp; omega)]
          exact xCs_at xs (ys ++ zs) _
        have fK := hS2.own.frozenAt (xs.length * 3 + 2)
        have hm' := Hm.out
        have HS3 := hS2.kid (v := ((m + 1 : Nat) : Int)) ⟨by omega, by omega⟩
        have HS4 : Hid _ := HS3
        have hmb : m < 65536 := by omega
        have hNl : xs.length < (xs ++ (⟨⟨x.e.tag, x.e.data, (m : Int)⟩, x.a, x.c⟩ : X) :: (ys ++ zs)).length := by simp
        have Hm2 : Hid (m + 1 ≤ i + n ∧ (ys ++ zs).length ≤ i + n) := by
          have := Hzs.out
          rw [List.length_append]
          exact ⟨by omega, by omega⟩
        generalize (xs ++ (⟨⟨x.e.tag, x.e.data, (m : Int)⟩, x.a, x.c⟩ : X) :: (ys ++ zs)).length = NN at *
        clear HKe HKo C HR hzs hS2 HS3 hm' Hm HS hbel
        unfold two
        go_wp2
        go_roundw
        case rel =>
          exact ⟨i + n, m + 1, K', ys ++ zs, _, by go_num, by omega, Hm2, HS4, by omega, HR2.out⟩
        case measure => simp [intOf]; omega
    · have hi : a + i = b := by omega
      have HR : Hid (pk (pe d) (sg l a b).length (sg l a b) = .ok (es ys, m)) := by
        show _ = _
        rw [HK.out.2, hi, sg_nil]
        cases K <;> simp [pk, comb]
      clear HK
      go_wp2
      go_ret2
      rw [HR.out]
      exact ⟨HS.out.bel, by rw [← hi]; rfl, _, ys, HS.out, rfl⟩
end Go.Proofs.Ytjncpibhnpoghaa
