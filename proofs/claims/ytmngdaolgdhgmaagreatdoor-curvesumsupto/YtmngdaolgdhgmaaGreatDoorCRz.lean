import Derived.Test.YtmngdaolgdhgmaaGreatDoorCV
import Derived.Test.YtmngdaolgdhgmaaGreatDoorCS
import Derived.Test.YtmngdaolgdhgmaaGreatDoorCJ
import Derived.Test.YtmngdaolgdhgmaaGreatDoorNtY5
import Derived.Test.YtmngdaolgdhgmaaGreatDoorNtRv4
import Derived.Test.YtmngdaolgdhgmaaGreatDoorNtZ6
namespace Go.Proofs.YtmngdaolgdhgmaaGreatDoor
theorem cgr (p : Nat) (a : Int) : (p : Int) ∣ a - a := by rw [Int.sub_self]; exact Int.dvd_zero _
/-- The document's sum by its slope s. -/
def dX (p s x1 x2 : Nat) : Nat := fS p (fS p (fM p s s) x1) x2
def dY (p s x1 x3 y1 : Nat) : Nat := fS p (fM p s (fS p x1 x3)) y1
theorem doc_sum {p b : Nat} (C : Cv p b) (hp : Pm p) {x1 y1 x2 y2 s : Nat} (h1 : onP p b (.A x1 y1)) (h2 : onP p b (.A x2 y2)) (hn : ¬ (x1 = x2 ∧ (y1 + y2) % p = 0)) (hs : SlP p x1 y1 x2 y2 s) : sm p (.A x1 y1) (.A x2 y2) = .A (dX p s x1 x2) (dY p s x1 (dX p s x1 x2) y1) := by
  refine C.sm_is h1 h2 (.inr ⟨hn, (s : Int), hs, _, _, rfl, fS_lt hp _ _, fS_lt hp _ _, ?_, ?_⟩)
  · exact lc1 1 (cg_fS hp (cg_fS hp (fM_cg p s s) (cgr p x1)) (cgr p x2)) (by unfold dX; generalize fS p (fS p (fM p s s) x1) x2 = z; grind)
  · exact lc1 1 (cg_fS hp (cg_fM (cgr p s) (fS_cg hp x1 (dX p s x1 x2))) (cgr p y1)) (by unfold dY; generalize fS p (fM p s (fS p x1 (dX p s x1 x2))) y1 = z; grind)
theorem inz_cg {A p Y : Nat} {a : Int} (h : Inz A p Y) (ha : (p : Int) ∣ (A : Int) - a) : (p : Int) ∣ a * Y - 1 := by
  have h1 : (p : Int) ∣ ((A * Y : Nat) : Int) - 1 := by
    have h2 : A * Y = p * (A * Y / p) + 1 := by have := Nat.div_add_mod (A * Y) p; rw [h.2] at this; omega
    refine ⟨((A * Y / p : Nat) : Int), ?_⟩
    have h3 : ((A * Y : Nat) : Int) = (p : Int) * ((A * Y / p : Nat) : Int) + 1 := by exact_mod_cast h2
    omega
  rw [Int.natCast_mul] at h1
  exact lc2 1 (-(Y : Int)) h1 ha (by grind)
theorem doc_chord {p b : Nat} (C : Cv p b) (hp : Pm p) {x1 y1 x2 y2 Y : Nat} (h1 : onP p b (.A x1 y1)) (h2 : onP p b (.A x2 y2)) (hx : x1 ≠ x2) (hY : Inz (fS p x2 x1) p Y) : SlP p x1 y1 x2 y2 (fM p (fS p y2 y1) Y) := by
  have e1 := inz_cg hY (fS_cg hp x2 x1)
  have e2 := cg_fM (fS_cg hp y2 y1) (cgr p Y)
  have A1 : (p : Int) ∣ (y1 : Int) - y2 - (fM p (fS p y2 y1) Y : Int) * (x1 - x2) := lc2 ((x2 : Int) - x1) ((y2 : Int) - y1) e2 e1 (by grind)
  refine ⟨A1, C.pr.can (a := (x1 : Int) - x2) (fun h => hx (eq_of_dvd h1.1 h2.1 h)) ?_⟩
  exact lc3 (-((y1 : Int) + y2)) 1 (-1) A1 h1.2.2 h2.2.2 (by grind)
theorem doc_y {p b : Nat} (C : Cv p b) {x1 y1 y2 : Nat} (h1 : onP p b (.A x1 y1)) (h2 : onP p b (.A x1 y2)) (hn : (y1 + y2) % p ≠ 0) : y1 = y2 := by
  have h3 : (p : Int) ∣ ((y1 : Int) + y2) * ((y1 : Int) - y2) := lc2 1 (-1) h1.2.2 h2.2.2 (by grind)
  refine eq_of_dvd h1.2.1 h2.2.1 (C.pr.can (fun h => hn ?_) h3)
  have h4 : (p : Int) ∣ ((y1 + y2 : Nat) : Int) := by rw [Int.natCast_add]; exact h
  exact Nat.mod_eq_zero_of_dvd (Int.natCast_dvd_natCast.1 h4)
theorem doc_tangent {p b : Nat} (hp : Pm p) {x y Y : Nat} (_h1 : onP p b (.A x y)) (hY : Inz (fM p 2 y) p Y) : SlP p x y x y (fM p (fS p (fM p 3 (fM p x x)) 3) Y) := by
  have e1 := inz_cg hY (fM_cg p 2 y)
  have e2 := cg_fM (cg_fS hp (cg_fM (cgr p (3 : Nat)) (fM_cg p x x)) (cgr p (3 : Nat))) (cgr p Y)
  refine ⟨by rw [Int.sub_self, Int.sub_self, Int.mul_zero]; exact Int.dvd_zero _, ?_⟩
  exact lc2 (2 * (y : Int)) (3 * ((x : Int) * x) - 3) e2 e1 (by grind)
theorem doc_on {p b : Nat} (hp : Pm p) (X : Nat) : fA p (fS p (fM p X (fM p X X)) (fM p 3 X)) b = fS p (fM p X X * X + b) (X * 3) := by
  refine eq_of_dvd (fA_lt hp _ _) (fS_lt hp _ _) ?_
  have e1 := cg_fA (cg_fS hp (cg_fM (cgr p X) (fM_cg p X X)) (fM_cg p 3 X)) (cgr p b)
  have e2 := fS_cg hp (fM p X X * X + b) (X * 3)
  have e3 := fM_cg p X X
  rw [Int.natCast_add, Int.natCast_mul, Int.natCast_mul] at e2
  exact lc3 1 (-1) (-(X : Int)) e1 e2 e3 (by grind)
end Go.Proofs.YtmngdaolgdhgmaaGreatDoor

namespace Go.Proofs.YtmngdaolgdhgmaaGreatDoor
open Go.RowKit

set_option maxRecDepth 100000

set_option maxHeartbeats 1000000 in
theorem qproper_any (ao : Option Addr) (n c : Nat) (xs : List Nat) (w : World) (hx : Rn w ao xs) (sx : Sm Bs xs) (hn : n = xs.length) (hl : n ≤ 1000000000) :
    Calls Tryz.prog 44 #[.slice ao n c] w fun e w' => ∃ r, e = .returned r ∧ Ow w' w.heap.size r (dg Bs (nv Bs xs)) ∧ Below w.heap.size w w' := by
  have Hx : Hid (Rn w ao xs) := hx
  have Hn : Hid (n = xs.length) := hn
  have Hs : Hid (Sm Bs xs) := sx
  have HN0 : Hid (OB w.heap.size w w (.slice none 0 0) (xs.take 0)) := OB.nil w
  clear hx hn sx
  go_enter Tryz.func44, Tryz.ntmps44
  go_wp2
  go_loop [4] (fun s => ∃ k : Nat, s = .int .i64 (k : Int) ∧ k ≤ n ∧ Hid (∀ j, k ≤ j → xs.getD j 0 = 0)) (fun s => (intOf s).toNat)
  case atStart => exact ⟨n, rfl, Nat.le_refl _, fun j hj => getD_none _ _ (by have := Hn.out; omega)⟩
  case round =>
    obtain ⟨k, rfl, hk, Hz⟩ := hrel
    by_cases hz : 0 < k ∧ xs.getD (k - 1) 0 = 0
    · obtain ⟨k, rfl⟩ : ∃ j, k = j + 1 := ⟨k - 1, by omega⟩
      obtain ⟨g, off, rfl, _, hcell⟩ := Hx.out.cell (by have := Hn.out; omega)
      have gc := hcell k (by have := Hn.out; omega)
      rw [Nat.add_sub_cancel] at hz
      rw [hz.2] at gc
      have Hz1 : Hid (∀ j, k ≤ j → xs.getD j 0 = 0) := fun j hj => by
        rcases Nat.lt_or_ge k j with h | h
        · exact Hz.out j h
        · obtain rfl : j = k := by omega
          exact hz.2
      have e1 : ((k + 1 : Nat) : Int) - 1 = (k : Int) := by omega
      rw [show ((0 : Nat) : Int) = 0 from rfl] at gc
      clear hcell hz
      go_wp2
      go_round
      case rel => exact ⟨k, rfl, by omega, Hz1⟩
      case measure => simp [intOf]
    · have Ht : Hid (tl xs = k) := tl_of xs k (by have := Hn.out; omega) Hz.out (by omega)
      have HX : Hid (xs.take k = dg Bs (nv Bs xs)) := by show _ = _; rw [← Ht.out]; exact trim_dg Bs_two Hs.out
      have HZ : Hid (True → k = 0 ∨ xs.getD (k - 1) 0 ≠ 0) := fun _ => by omega
      clear hz Hz Ht
      have KEY : k = 0 ∨ ∃ (j g off x : Nat), k = j + 1 ∧ ao = some ⟨g, off, none⟩ ∧ w.cell? ⟨g, off + j, none⟩ = some (.int .u32 (x : Int)) ∧ (((x : Int) == 0) = false) := by
        rcases Nat.eq_zero_or_pos k with h | h
        · exact .inl h
        · obtain ⟨g, off, e, _, hcell⟩ := Hx.out.cell (by have := Hn.out; omega)
          refine .inr ⟨k - 1, g, off, xs.getD (k - 1) 0, by omega, e, hcell (k - 1) (by have := Hn.out; omega), ?_⟩
          have := HZ.out trivial
          simp only [beq_eq_false_iff_ne]
          omega
      clear HZ
      rcases KEY with rfl | ⟨j, g, off, x, rfl, rfl, gc, hxb⟩
      · go_wp2
        go_loopw [3, 5] (fun s4 s5 wr => s4 = .slice none 0 0 ∧ s5 = .int .i64 0 ∧ wr = w) (fun _ _ _ => 0)
        case atStart => exact ⟨rfl, rfl, rfl⟩
        case round =>
          obtain ⟨rfl, rfl, rfl⟩ := hrel
          go_wp2
          go_ret
          refine ⟨_, rfl, ?_, Below.refl _ _⟩
          rw [← HX.out, List.take_zero]
          exact Ow.nil _ _
      · have e1 : ((j + 1 : Nat) : Int) - 1 = (j : Int) := by omega
        go_wp2
        clear gc hxb
        go_loopw [3, 5] (fun s4 s5 wr => ∃ i : Nat, s5 = .int .i64 (i : Int) ∧ i ≤ j + 1 ∧ Hid (OB w.heap.size w wr s4 (xs.take i))) (fun _ s _ => j + 1 - (intOf s).toNat)
        case atStart => exact ⟨0, rfl, Nat.zero_le _, HN0⟩
        case round =>
          clear HN0
          obtain ⟨i, rfl, hi, HI⟩ := hrel
          by_cases hlt : i < j + 1
          · have hix : i < xs.length := by have := Hn.out; omega
            obtain ⟨g', off', e', _, hcell⟩ := (Hx.out.below HI.out.bel (Nat.le_refl _)).cell (by omega)
            cases e'
            have gc := hcell i hix
            obtain ⟨y, Hy⟩ : ∃ y, Hid (xs.getD i 0 = y) := ⟨_, rfl⟩
            rw [Hy.out] at gc
            have hil : (i : Int) < (j : Int) + 1 := by omega
            have HL : Hid ((xs.take i).length ≤ 1000000000) := by show _ ≤ _; rw [List.length_take]; omega
            clear hcell
            go_wp2_with (at_builtin; refine append_one (w := w) rfl (.tmp 25) (.tmp 30) rfl w.heap.size _ (xs.take i) y rfl HI.out rfl HL.out (Nat.le_refl _) ?_; intro v5 w5 h5)
            have HO : Hid (OB w.heap.size w w5 v5 (xs.take (i + 1))) := by
              rw [List.take_succ_eq_append_getElem hix, ← getD_eq _ _ hix, Hy.out]; exact h5
            clear h5
            go_wp2
            go_roundw
            case rel => exact ⟨i + 1, by go_num, by omega, HO⟩
            case measure => simp [intOf]; omega
          · obtain rfl : i = j + 1 := by omega
            have hil : ¬ (((j + 1 : Nat) : Int) < (j : Int) + 1) := by omega
            go_wp2
            go_ret
            refine ⟨_, rfl, ?_, HI.out.bel⟩
            rw [← HX.out]
            exact HI.out.own

/-- A number as the document's calls want it. -/
def Nq (w : World) (v : Value) (V k : Nat) : Prop := Nd w v V 3000000 ∧ V < pw k
theorem Nq.below {w w' : World} {v : Value} {V k m : Nat} (h : Nq w v V k) (hb : Below m w w') (hn : w.heap.size ≤ m) : Nq w' v V k := ⟨h.1.below hb hn, h.2⟩
theorem Mk.nq {w : World} {base : Nat} {v : Value} {V k : Nat} (h : Mk w base v V k) : Nq w v V k := ⟨⟨h.nk.1, h.1.nz, h.1.cap⟩, h.2.2⟩
theorem Rk.nq {w w' : World} {v : Value} {V k : Nat} (h : Rk w w' v V k) : Nq w' v V k := h.mk.nq
theorem Nq.nk {w : World} {v : Value} {V k : Nat} (h : Nq w v V k) : Nk w v V k := ⟨h.1.1, h.2⟩
theorem q7add {p : Nat} (hp : Pm p) {x y m : Value} {X Y : Nat} {w : World} (hx : Nq w x X 384) (hy : Nq w y Y 384) (hm : Nq w m p 384) : Calls Tryz.prog 71 #[x, y, m] w fun e w' => ∃ r, e = .returned (.tuple #[r, .int .i64 0]) ∧ Rk w w' r (fA p X Y) 384 := by
  have C := dadd x y m X Y p w hx.1 hy.1 hm.1
  rw [rcode_fine hp.1 hp.lt4 hx.2 hy.2 (by decide) (by decide)] at C
  refine C.mono ?_
  rintro e w' (⟨h, _⟩ | ⟨_, r, h1, h2⟩)
  · exact absurd rfl h
  · exact ⟨r, h1, h2, hp.lt (fA_lt hp X Y)⟩
theorem q7sub {p : Nat} (hp : Pm p) {x y m : Value} {X Y : Nat} {w : World} (hx : Nq w x X 384) (hy : Nq w y Y 384) (hm : Nq w m p 384) : Calls Tryz.prog 72 #[x, y, m] w fun e w' => ∃ r, e = .returned (.tuple #[r, .int .i64 0]) ∧ Rk w w' r (fS p X Y) 384 := by
  have C := dsub x y m X Y p w hx.1 hy.1 hm.1
  rw [rcode_fine hp.1 hp.lt4 hx.2 hy.2 (by decide) (by decide)] at C
  refine C.mono ?_
  rintro e w' (⟨h, _⟩ | ⟨_, r, h1, h2⟩)
  · exact absurd rfl h
  · exact ⟨r, h1, h2, hp.lt (fS_lt hp X Y)⟩
theorem q7mul {p : Nat} (hp : Pm p) {x y m : Value} {X Y : Nat} {w : World} (hx : Nq w x X 384) (hy : Nq w y Y 384) (hm : Nq w m p 384) : Calls Tryz.prog 73 #[x, y, m] w fun e w' => ∃ r, e = .returned (.tuple #[r, .int .i64 0]) ∧ Rk w w' r (fM p X Y) 384 := by
  have C := dmul x y m X Y p w hx.1 hy.1 hm.1
  rw [rcode_fine hp.1 hp.lt4 hx.2 hy.2 (by decide) (by decide)] at C
  refine C.mono ?_
  rintro e w' (⟨h, _⟩ | ⟨_, r, h1, h2⟩)
  · exact absurd rfl h
  · exact ⟨r, h1, h2, hp.lt (fM_lt hp X Y)⟩
theorem q7inv {p : Nat} (hp : Pm p) (hpr : Prim p) {y m : Value} {Y : Nat} {w : World} (hy : Nq w y Y 384) (hm : Nq w m p 384) (h0 : 0 < Y) (h1 : Y < p) : Calls Tryz.prog 120 #[y, m] w fun e w' => ∃ r Z, Inz Y p Z ∧ e = .returned (.tuple #[r, .int .i64 0]) ∧ Rk w w' r Z 384 := by
  refine (dinv y m Y p w hy.1 hm.1).mono ?_
  have hr := rcode_inv hp (hp.lt h1)
  rintro e w' (⟨h, _⟩ | ⟨_, hg, _⟩ | ⟨_, Z, r, hZ, rfl, h⟩)
  · exact absurd hr h
  · refine absurd ?_ hg
    rw [Nat.gcd_comm]
    exact hpr.cop fun h => by have := Nat.le_of_dvd h0 h; omega
  · exact ⟨r, Z, hZ, rfl, h, hp.lt hZ.1⟩
end Go.Proofs.YtmngdaolgdhgmaaGreatDoor

namespace Go.Proofs.YtmngdaolgdhgmaaGreatDoor
open Go.RowKit

set_option maxRecDepth 100000

def hd (c : UInt8) : Nat := if 97 ≤ c.toNat then c.toNat - 87 else c.toNat - 48
def Hxd (c : UInt8) : Bool := (decide (48 ≤ c.toNat) && decide (c.toNat ≤ 57)) || (decide (97 ≤ c.toNat) && decide (c.toNat ≤ 102))
theorem hxd_or {c : UInt8} (h : Hxd c = true) : (48 ≤ c.toNat ∧ c.toNat ≤ 57) ∨ (97 ≤ c.toNat ∧ c.toNat ≤ 102) := by
  unfold Hxd at h
  simpa using h
theorem hd_lt {c : UInt8} (h : Hxd c = true) : hd c < 16 := by
  have := hxd_or h
  unfold hd
  split <;> omega
theorem digit_v (c : UInt8) (w : World) (h : Hxd c = true) : Calls Tryz.prog 66 #[.int .u8 (c.toNat : Int)] w fun e w' => e = .returned (.int .u32 (hd c : Int)) ∧ w' = w := by
  have h2 := hxd_or h
  unfold hd
  generalize c.toNat = k at *
  by_cases h1 : 97 ≤ k
  · have e : ((if 97 ≤ k then k - 87 else k - 48 : Nat) : Int) = (k : Int) - 97 + 10 := by rw [if_pos h1]; omega
    rw [e]
    have hb : decide ((k : Int) ≥ 97) = true := decide_eq_true (by omega)
    have h3 : k ≤ 102 := by omega
    clear h2 h e
    go_enter Tryz.func66, Tryz.ntmps66
    go_wp2
    go_ret
    exact ⟨rfl, rfl⟩
  · have e : ((if 97 ≤ k then k - 87 else k - 48 : Nat) : Int) = (k : Int) - 48 := by rw [if_neg h1]; omega
    rw [e]
    have hb : decide ((k : Int) ≥ 97) = false := decide_eq_false (by omega)
    have h3 : 48 ≤ k ∧ k ≤ 57 := by omega
    clear h2 h e
    go_enter Tryz.func66, Tryz.ntmps66
    go_wp2
    go_ret
    exact ⟨rfl, rfl⟩
def qh (l : List UInt8) : Nat := l.foldl (fun a c => 16 * a + hd c) 0
theorem qh_snoc (l : List UInt8) (c : UInt8) : qh (l ++ [c]) = 16 * qh l + hd c := by simp [qh]
theorem qh_up (l : List UInt8) (h : ∀ c ∈ l, Hxd c = true) : ∀ a, l.foldl (fun a c => 16 * a + hd c) a < (a + 1) * 16 ^ l.length := by
  induction l with
  | nil => intro a; simp
  | cons c l ih =>
    intro a
    have h1 := ih (fun x hx => h x (by simp [hx])) (16 * a + hd c)
    have h2 := hd_lt (h c (by simp))
    have h3 : (16 * a + hd c + 1) * 16 ^ l.length ≤ (16 * (a + 1)) * 16 ^ l.length := Nat.mul_le_mul_right _ (by omega)
    rw [List.foldl_cons, List.length_cons, Nat.pow_succ', ← Nat.mul_assoc, Nat.mul_comm (a + 1) 16]
    omega
theorem qh_lt (l : List UInt8) (h : ∀ c ∈ l, Hxd c = true) : qh l < 16 ^ l.length := by
  have := qh_up l h 0
  rwa [Nat.zero_add, Nat.one_mul] at this
def limbsH (n : Nat) (l : List UInt8) : List Nat := (List.range n).map fun j => qh ((l.drop (8 * (n - 1 - j))).take 8)
theorem limbsH_len (n : Nat) (l : List UInt8) : (limbsH n l).length = n := by simp [limbsH]
theorem limbsH_get (n : Nat) (l : List UInt8) (t : Nat) (h : t < n) : (limbsH n l).take (t + 1) = (limbsH n l).take t ++ [qh ((l.drop (8 * (n - 1 - t))).take 8)] := by
  rw [List.take_succ_eq_append_getElem (by rw [limbsH_len]; exact h)]
  simp [limbsH]
set_option maxHeartbeats 4000000 in
theorem number_q (n : Nat) (l : List UInt8) (w : World) (hl : l.length = 8 * n) (hn : n ≤ 100) (hh : ∀ c ∈ l, Hxd c = true) :
    Calls Tryz.prog 42 #[.string ⟨l.toArray⟩] w fun e w' => ∃ r, e = .returned r ∧ OB w.heap.size w w' r (limbsH n l) := by
  have Hl : Hid (l.length = 8 * n) := hl
  have HH : Hid (∀ c ∈ l, Hxd c = true) := hh
  have HN0 : Hid (OB w.heap.size w w (.slice none 0 0) ((limbsH n l).take 0)) := OB.nil w
  have hll : ((l.length : Nat) : Int) = 8 * (((n - 0 : Nat) : Nat) : Int) := by omega
  clear hh
  go_enter Tryz.func42, Tryz.ntmps42
  go_wp2
  go_loopw [3, 4, 5, 6] (fun s3 s4 _ _ wr => ∃ t : Nat, s4 = .int .i64 (8 * ((n - t : Nat) : Int)) ∧ t ≤ n ∧ Hid (OB w.heap.size w wr s3 ((limbsH n l).take t))) (fun _ s _ _ _ => (intOf s).toNat)
  case atStart => exact ⟨0, by rw [Nat.sub_zero], Nat.zero_le _, HN0⟩
  case round =>
    clear HN0 hll
    obtain ⟨t, rfl, ht, HI⟩ := hrel
    by_cases hlt : t < n
    · obtain ⟨m, Hm⟩ : ∃ m : Nat, Hid (m = n - 1 - t) := ⟨_, rfl⟩
      have e1 : 8 * ((n - t : Nat) : Int) = 8 * (m : Int) + 8 := by have := Hm.out; omega
      rw [e1]
      have hm100 : m ≤ 100 := by have := Hm.out; omega
      have hpos : decide ((8 * (m : Int) + 8) > 0) = true := decide_eq_true (by omega)
      go_wp2
      go_loopw [5, 6] (fun s5 s6 wx => ∃ u V : Nat, s6 = .int .i64 (8 * (m : Int) + (u : Int)) ∧ s5 = .int .u32 (V : Int) ∧ u ≤ 8 ∧ wx = wr ∧ Hid (V = qh ((l.drop (8 * m)).take u))) (fun _ s _ => (8 * (m : Int) + 8 - intOf s).toNat)
      case atStart => exact ⟨0, 0, by simp, rfl, Nat.zero_le _, rfl, (show 0 = qh _ by simp [qh])⟩
      case round =>
        obtain ⟨u, V, rfl, rfl, hu, rfl, HV⟩ := hrel
        by_cases hlu : u < 8
        · have hk : 8 * m + u < l.length := by have := Hl.out; have := Hm.out; omega
          obtain ⟨c, Hc⟩ : ∃ c, Hid (l[8 * m + u]'hk = c) := ⟨l[8 * m + u]'hk, rfl⟩
          have gx : (⟨l.toArray⟩ : ByteArray)[8 * m + u]'(by show 8 * m + u < l.toArray.size; simpa using hk) = c := Hc.out
          have hV : V < 268435456 := by
            have h1 := qh_lt ((l.drop (8 * m)).take u) (fun x hx => HH.out x (List.mem_of_mem_drop (List.mem_of_mem_take hx)))
            rw [← HV.out] at h1
            refine Nat.lt_of_lt_of_le h1 (Nat.le_trans (Nat.pow_le_pow_right (by decide) (show ((l.drop (8 * m)).take u).length ≤ 7 by rw [List.length_take]; omega)) (by decide))
          have HX : Hid (Hxd c = true) := HH.out c (Hc.out ▸ List.getElem_mem hk)
          have hd16 : hd c < 16 := hd_lt HX.out
          have HV1 : Hid (16 * V + hd c = qh ((l.drop (8 * m)).take (u + 1))) := by
            show _ = _
            rw [List.take_succ_eq_append_getElem (show u < (l.drop (8 * m)).length by simp; omega), qh_snoc, HV.out]
            simp [Hc.out]
          have hlss : decide (8 * (m : Int) + (u : Int) < 8 * (m : Int) + 8) = true := decide_eq_true (by omega)
          go_wp2_with fail
          refine (digit_v c _ HX.out).mono ?_
          rintro e wx ⟨rfl, rfl⟩
          generalize hd c = D at *
          go_wp2
          go_roundw
          case rel => exact ⟨u + 1, 16 * V + D, by go_num, by go_num, by omega, trivial, HV1⟩
          case measure => simp [intOf]; omega
        · obtain rfl : u = 8 := by omega
          have hlss : decide (8 * (m : Int) + ((8 : Nat) : Int) < 8 * (m : Int) + 8) = false := decide_eq_false (by omega)
          have HL : Hid (((limbsH n l).take t).length ≤ 1000000000) := by show _ ≤ _; rw [List.length_take, limbsH_len]; omega
          go_wp2_with (at_builtin; refine append_one (w := w) rfl (.tmp 27) (.tmp 29) rfl w.heap.size _ ((limbsH n l).take t) V rfl HI.out rfl HL.out (Nat.le_refl _) ?_; intro v5 w5 h5)
          have HO : Hid (OB w.heap.size w w5 v5 ((limbsH n l).take (t + 1))) := by
            rw [limbsH_get n l t hlt, ← Hm.out, ← HV.out]; exact h5
          clear h5
          have e2 : 8 * (m : Int) + 8 - 8 = 8 * ((n - (t + 1) : Nat) : Int) := by have := Hm.out; omega
          go_wp2
          go_roundw
          case rel => exact ⟨t + 1, by go_num, by omega, HO⟩
          case measure => simp [intOf]; omega
    · obtain rfl : t = n := by omega
      have e1 : 8 * ((t - t : Nat) : Int) = 0 := by omega
      rw [e1]
      go_wp2
      go_ret
      refine ⟨_, rfl, ?_⟩
      have h := HI.out
      rwa [List.take_of_length_le (by rw [limbsH_len]; exact Nat.le_refl _)] at h
end Go.Proofs.YtmngdaolgdhgmaaGreatDoor

namespace Go.Proofs.YtmngdaolgdhgmaaGreatDoor
open Go.RowKit

set_option maxRecDepth 100000

/-- A number of one's own, of any size. -/
def Ob' (w : World) (base : Nat) (v : Value) (V : Nat) : Prop := Ow w base v (dg Bs V) ∧ (dg Bs V).length ≤ 3000000
theorem Ob'.below {w w' : World} {base : Nat} {v : Value} {V : Nat} (h : Ob' w base v V) (hb : Below w.heap.size w w') : Ob' w' base v V := ⟨h.1.below hb (Nat.le_refl _), h.2⟩
theorem Ob'.mk {w : World} {base : Nat} {v : Value} {V : Nat} (h : Ob' w base v V) (hV : V < pw 384) : Mk w base v V 384 := ⟨h.1, h.2, hV⟩
theorem Ob'.nu {w : World} {base : Nat} {v : Value} {V : Nat} (h : Ob' w base v V) : Nu w v V := h.1.vl h.2
theorem number_e {n V : Nat} {l : List UInt8} {w : World} (hl : l.length = 8 * n) (hn : n ≤ 100) (hh : ∀ c ∈ l, Hxd c = true) (hV : limbsH n l = dg Bs V) (hp : V < pw 384) :
    Calls Tryz.prog 42 #[.string ⟨l.toArray⟩] w fun e w' => ∃ r, e = .returned r ∧ Mk w' w.heap.size r V 384 ∧ Below w.heap.size w w' := by
  refine (number_q n l w hl hn hh).mono ?_
  rintro e w' ⟨r, rfl, h⟩
  have h1 := h.own
  rw [hV] at h1
  exact ⟨r, rfl, ⟨h1, by rw [← hV, limbsH_len]; omega, hp⟩, h.bel⟩
theorem rcmpq {v u : Value} {X Y : Nat} {w : World} (hv : Nu w v X) (hu : Nu w u Y) : Calls Tryz.prog 45 #[v, u] w fun e w' => e = .returned (.int .i64 (cmp3 (X : Int) (Y : Int))) ∧ w' = w := by
  obtain ⟨xs, n1, rfl, k1⟩ := hv
  obtain ⟨ys, n2, rfl, k2⟩ := hu
  exact rcmp_nm v u xs ys w n1 n2 (by omega) (by omega)
theorem properq {v : Value} {X : Nat} {w : World} (hv : Nu w v X) : Calls Tryz.prog 44 #[v] w fun e w' => ∃ r, e = .returned r ∧ Ob' w' w.heap.size r X ∧ Below w.heap.size w w' := by
  obtain ⟨xs, n1, rfl, k1⟩ := hv
  obtain ⟨a, c, rfl, _, r1, s1⟩ := n1
  refine (qproper_any a _ c xs w r1 s1 rfl (by omega)).mono ?_
  rintro e w' ⟨r, rfl, h, hB⟩
  exact ⟨r, rfl, ⟨h, dgl_arg xs _ s1 k1⟩, hB⟩
theorem cmp_ge' (a n : Nat) : decide (cmp3 (a : Int) (n : Int) ≥ 0) = decide (¬ a < n) := by
  unfold cmp3
  split
  · rw [decide_eq_false (by omega), decide_eq_false (by omega)]
  · split
    · rw [decide_eq_true (by omega), decide_eq_true (by omega)]
    · rw [decide_eq_true (by omega), decide_eq_true (by omega)]
theorem cmp_is0 (a n : Nat) : (cmp3 (a : Int) (n : Int) == 0) = decide (a = n) := by
  unfold cmp3
  split
  · rw [decide_eq_false (by omega)]; rfl
  · split
    · rw [decide_eq_false (by omega)]; rfl
    · rw [decide_eq_true (by omega)]; rfl
theorem btr {a b c : World} (h1 : Below a.heap.size a b) (h2 : Below b.heap.size b c) : Below a.heap.size a c := h1.trans (h2.mono h1.size)
set_option maxHeartbeats 4000000 in
theorem fieldq_1 (w : World) : Calls Tryz.prog 12 #[.int .i64 1] w fun e w' => ∃ r, e = .returned r ∧ Mk w' w.heap.size r k256p 384 ∧ Below w.heap.size w w' := by
  go_enter Tryz.func12, Tryz.ntmps12
  go_wp2_with fail
  refine (number_e (n := 8) (V := k256p) (by rfl) (by decide) (by decide +kernel) (by decide +kernel) (by decide +kernel)).mono ?_
  rintro e w1 ⟨r, rfl, hm, hB⟩
  have HX : Hid (Mk w1 w.heap.size r k256p 384 ∧ Below w.heap.size w w1) := ⟨hm, hB⟩
  obtain ⟨r0, r1, r2, rfl⟩ := hm.nk.sl
  clear hm hB
  go_wp2
  go_ret
  exact ⟨_, rfl, HX.out⟩
set_option maxHeartbeats 4000000 in
theorem fieldq_2 (w : World) : Calls Tryz.prog 12 #[.int .i64 2] w fun e w' => ∃ r, e = .returned r ∧ Mk w' w.heap.size r k384p 384 ∧ Below w.heap.size w w' := by
  go_enter Tryz.func12, Tryz.ntmps12
  go_wp2_with fail
  refine (number_e (n := 12) (V := k384p) (by rfl) (by decide) (by decide +kernel) (by decide +kernel) (by decide +kernel)).mono ?_
  rintro e w1 ⟨r, rfl, hm, hB⟩
  have HX : Hid (Mk w1 w.heap.size r k384p 384 ∧ Below w.heap.size w w1) := ⟨hm, hB⟩
  obtain ⟨r0, r1, r2, rfl⟩ := hm.nk.sl
  clear hm hB
  go_wp2
  go_ret
  exact ⟨_, rfl, HX.out⟩
theorem fieldq {c s : Int} {p b n gx gy : Nat} (hk : Kv c p b n gx gy s) (w : World) : Calls Tryz.prog 12 #[.int .i64 c] w fun e w' => ∃ r, e = .returned r ∧ Mk w' w.heap.size r p 384 ∧ Below w.heap.size w w' := by
  cases hk
  · exact fieldq_1 w
  · exact fieldq_2 w
set_option maxHeartbeats 4000000 in
theorem orderq_1 (w : World) : Calls Tryz.prog 13 #[.int .i64 1] w fun e w' => ∃ r, e = .returned r ∧ Mk w' w.heap.size r k256n 384 ∧ Below w.heap.size w w' := by
  go_enter Tryz.func13, Tryz.ntmps13
  go_wp2_with fail
  refine (number_e (n := 8) (V := k256n) (by rfl) (by decide) (by decide +kernel) (by decide +kernel) (by decide +kernel)).mono ?_
  rintro e w1 ⟨r, rfl, hm, hB⟩
  have HX : Hid (Mk w1 w.heap.size r k256n 384 ∧ Below w.heap.size w w1) := ⟨hm, hB⟩
  obtain ⟨r0, r1, r2, rfl⟩ := hm.nk.sl
  clear hm hB
  go_wp2
  go_ret
  exact ⟨_, rfl, HX.out⟩
set_option maxHeartbeats 4000000 in
theorem orderq_2 (w : World) : Calls Tryz.prog 13 #[.int .i64 2] w fun e w' => ∃ r, e = .returned r ∧ Mk w' w.heap.size r k384n 384 ∧ Below w.heap.size w w' := by
  go_enter Tryz.func13, Tryz.ntmps13
  go_wp2_with fail
  refine (number_e (n := 12) (V := k384n) (by rfl) (by decide) (by decide +kernel) (by decide +kernel) (by decide +kernel)).mono ?_
  rintro e w1 ⟨r, rfl, hm, hB⟩
  have HX : Hid (Mk w1 w.heap.size r k384n 384 ∧ Below w.heap.size w w1) := ⟨hm, hB⟩
  obtain ⟨r0, r1, r2, rfl⟩ := hm.nk.sl
  clear hm hB
  go_wp2
  go_ret
  exact ⟨_, rfl, HX.out⟩
theorem orderq {c s : Int} {p b n gx gy : Nat} (hk : Kv c p b n gx gy s) (w : World) : Calls Tryz.prog 13 #[.int .i64 c] w fun e w' => ∃ r, e = .returned r ∧ Mk w' w.heap.size r n 384 ∧ Below w.heap.size w w' := by
  cases hk
  · exact orderq_1 w
  · exact orderq_2 w
set_option maxHeartbeats 4000000 in
theorem bq_1 (w : World) : Calls Tryz.prog 49 #[.int .i64 1] w fun e w' => ∃ r, e = .returned r ∧ Mk w' w.heap.size r k256b 384 ∧ Below w.heap.size w w' := by
  go_enter Tryz.func49, Tryz.ntmps49
  go_wp2_with fail
  refine (number_e (n := 8) (V := k256b) (by rfl) (by decide) (by decide +kernel) (by decide +kernel) (by decide +kernel)).mono ?_
  rintro e w1 ⟨r, rfl, hm, hB⟩
  have HX : Hid (Mk w1 w.heap.size r k256b 384 ∧ Below w.heap.size w w1) := ⟨hm, hB⟩
  obtain ⟨r0, r1, r2, rfl⟩ := hm.nk.sl
  clear hm hB
  go_wp2
  go_ret
  exact ⟨_, rfl, HX.out⟩
set_option maxHeartbeats 4000000 in
theorem bq_2 (w : World) : Calls Tryz.prog 49 #[.int .i64 2] w fun e w' => ∃ r, e = .returned r ∧ Mk w' w.heap.size r k384b 384 ∧ Below w.heap.size w w' := by
  go_enter Tryz.func49, Tryz.ntmps49
  go_wp2_with fail
  refine (number_e (n := 12) (V := k384b) (by rfl) (by decide) (by decide +kernel) (by decide +kernel) (by decide +kernel)).mono ?_
  rintro e w1 ⟨r, rfl, hm, hB⟩
  have HX : Hid (Mk w1 w.heap.size r k384b 384 ∧ Below w.heap.size w w1) := ⟨hm, hB⟩
  obtain ⟨r0, r1, r2, rfl⟩ := hm.nk.sl
  clear hm hB
  go_wp2
  go_ret
  exact ⟨_, rfl, HX.out⟩
theorem bq {c s : Int} {p b n gx gy : Nat} (hk : Kv c p b n gx gy s) (w : World) : Calls Tryz.prog 49 #[.int .i64 c] w fun e w' => ∃ r, e = .returned r ∧ Mk w' w.heap.size r b 384 ∧ Below w.heap.size w w' := by
  cases hk
  · exact bq_1 w
  · exact bq_2 w
theorem fieldn (c : Int) (h1 : c ≠ 1) (h2 : c ≠ 2) (w : World) : Calls Tryz.prog 12 #[.int .i64 c] w fun e w' => e = .returned (.slice none 0 0) ∧ w' = w := by
  have d1 : (c == 1) = false := by simpa using h1
  have d2 : (c == 2) = false := by simpa using h2
  go_enter Tryz.func12, Tryz.ntmps12
  go_wp2
  go_ret
  exact ⟨rfl, rfl⟩
theorem ordern (c : Int) (h1 : c ≠ 1) (h2 : c ≠ 2) (w : World) : Calls Tryz.prog 13 #[.int .i64 c] w fun e w' => e = .returned (.slice none 0 0) ∧ w' = w := by
  have d1 : (c == 1) = false := by simpa using h1
  have d2 : (c == 2) = false := by simpa using h2
  go_enter Tryz.func13, Tryz.ntmps13
  go_wp2
  go_ret
  exact ⟨rfl, rfl⟩
theorem sizen (c : Int) (h1 : c ≠ 1) (h2 : c ≠ 2) (w : World) : Calls Tryz.prog 17 #[.int .i64 c] w fun e w' => e = .returned (.int .i64 0) ∧ w' = w := by
  have d1 : (c == 1) = false := by simpa using h1
  have d2 : (c == 2) = false := by simpa using h2
  go_enter Tryz.func17, Tryz.ntmps17
  go_wp2
  go_ret
  exact ⟨rfl, rfl⟩
theorem sizeq {c s : Int} {p b n gx gy : Nat} (hk : Kv c p b n gx gy s) (w : World) : Calls Tryz.prog 17 #[.int .i64 c] w fun e w' => e = .returned (.int .i64 s) ∧ w' = w := by
  cases hk
  all_goals
    go_enter Tryz.func17, Tryz.ntmps17
    go_wp2
    go_ret
    exact ⟨rfl, rfl⟩
set_option maxHeartbeats 4000000 in
theorem addq {c s : Int} {p b n gx gy : Nat} (hk : Kv c p b n gx gy s) {x y : Value} {X Y : Nat} {w : World} (hx : Nq w x X 384) (hy : Nq w y Y 384) : Calls Tryz.prog 46 #[.int .i64 c, x, y] w fun e w' => ∃ r, e = .returned r ∧ Mk w' w.heap.size r (fA p X Y) 384 ∧ Below w.heap.size w w' := by
  obtain ⟨x0, x1, x2, rfl⟩ := hx.nk.sl
  obtain ⟨y0, y1, y2, rfl⟩ := hy.nk.sl
  have HN : Hid (Nq w (.slice x0 x1 x2) X 384 ∧ Nq w (.slice y0 y1 y2) Y 384) := ⟨hx, hy⟩
  clear hx hy
  go_enter Tryz.func46, Tryz.ntmps46
  go_wp2_with fail
  refine (fieldq hk _).mono ?_
  rintro e w1 ⟨f, rfl, mf, hB⟩
  obtain ⟨f0, f1, f2, rfl⟩ := mf.nk.sl
  have HB1 : Hid (Below _ _ _) := hB
  have HF : Hid (Nq w1 (.slice f0 f1 f2) p 384) := mf.nq
  clear mf hB
  go_wp2_with fail
  refine (q7add hk.pm (HN.out.1.below HB1.out (Nat.le_refl _)) (HN.out.2.below HB1.out (Nat.le_refl _)) HF.out).mono ?_
  rintro e w2 ⟨r, rfl, h⟩
  have HX : Hid (Mk w2 w.heap.size r (fA p X Y) 384 ∧ Below w.heap.size w w2) := ⟨h.mk.base HB1.out.size, HB1.out.trans (h.bel.mono HB1.out.size)⟩
  obtain ⟨r0, r1, r2, rfl⟩ := h.sl
  clear h
  go_wp2
  go_ret
  exact ⟨_, rfl, HX.out⟩
set_option maxHeartbeats 4000000 in
theorem subq {c s : Int} {p b n gx gy : Nat} (hk : Kv c p b n gx gy s) {x y : Value} {X Y : Nat} {w : World} (hx : Nq w x X 384) (hy : Nq w y Y 384) : Calls Tryz.prog 47 #[.int .i64 c, x, y] w fun e w' => ∃ r, e = .returned r ∧ Mk w' w.heap.size r (fS p X Y) 384 ∧ Below w.heap.size w w' := by
  obtain ⟨x0, x1, x2, rfl⟩ := hx.nk.sl
  obtain ⟨y0, y1, y2, rfl⟩ := hy.nk.sl
  have HN : Hid (Nq w (.slice x0 x1 x2) X 384 ∧ Nq w (.slice y0 y1 y2) Y 384) := ⟨hx, hy⟩
  clear hx hy
  go_enter Tryz.func47, Tryz.ntmps47
  go_wp2_with fail
  refine (fieldq hk _).mono ?_
  rintro e w1 ⟨f, rfl, mf, hB⟩
  obtain ⟨f0, f1, f2, rfl⟩ := mf.nk.sl
  have HB1 : Hid (Below _ _ _) := hB
  have HF : Hid (Nq w1 (.slice f0 f1 f2) p 384) := mf.nq
  clear mf hB
  go_wp2_with fail
  refine (q7sub hk.pm (HN.out.1.below HB1.out (Nat.le_refl _)) (HN.out.2.below HB1.out (Nat.le_refl _)) HF.out).mono ?_
  rintro e w2 ⟨r, rfl, h⟩
  have HX : Hid (Mk w2 w.heap.size r (fS p X Y) 384 ∧ Below w.heap.size w w2) := ⟨h.mk.base HB1.out.size, HB1.out.trans (h.bel.mono HB1.out.size)⟩
  obtain ⟨r0, r1, r2, rfl⟩ := h.sl
  clear h
  go_wp2
  go_ret
  exact ⟨_, rfl, HX.out⟩
set_option maxHeartbeats 4000000 in
theorem mulq {c s : Int} {p b n gx gy : Nat} (hk : Kv c p b n gx gy s) {x y : Value} {X Y : Nat} {w : World} (hx : Nq w x X 384) (hy : Nq w y Y 384) : Calls Tryz.prog 48 #[.int .i64 c, x, y] w fun e w' => ∃ r, e = .returned r ∧ Mk w' w.heap.size r (fM p X Y) 384 ∧ Below w.heap.size w w' := by
  obtain ⟨x0, x1, x2, rfl⟩ := hx.nk.sl
  obtain ⟨y0, y1, y2, rfl⟩ := hy.nk.sl
  have HN : Hid (Nq w (.slice x0 x1 x2) X 384 ∧ Nq w (.slice y0 y1 y2) Y 384) := ⟨hx, hy⟩
  clear hx hy
  go_enter Tryz.func48, Tryz.ntmps48
  go_wp2_with fail
  refine (fieldq hk _).mono ?_
  rintro e w1 ⟨f, rfl, mf, hB⟩
  obtain ⟨f0, f1, f2, rfl⟩ := mf.nk.sl
  have HB1 : Hid (Below _ _ _) := hB
  have HF : Hid (Nq w1 (.slice f0 f1 f2) p 384) := mf.nq
  clear mf hB
  go_wp2_with fail
  refine (q7mul hk.pm (HN.out.1.below HB1.out (Nat.le_refl _)) (HN.out.2.below HB1.out (Nat.le_refl _)) HF.out).mono ?_
  rintro e w2 ⟨r, rfl, h⟩
  have HX : Hid (Mk w2 w.heap.size r (fM p X Y) 384 ∧ Below w.heap.size w w2) := ⟨h.mk.base HB1.out.size, HB1.out.trans (h.bel.mono HB1.out.size)⟩
  obtain ⟨r0, r1, r2, rfl⟩ := h.sl
  clear h
  go_wp2
  go_ret
  exact ⟨_, rfl, HX.out⟩
set_option maxHeartbeats 4000000 in
theorem overq {c s : Int} {p b n gx gy : Nat} (hk : Kv c p b n gx gy s) {x y : Value} {X Y : Nat} {w : World} (hx : Nq w x X 384) (hy : Nq w y Y 384) (h0 : 0 < Y) (h1 : Y < p) : Calls Tryz.prog 87 #[.int .i64 c, x, y] w fun e w' => ∃ r Z, Inz Y p Z ∧ e = .returned r ∧ Mk w' w.heap.size r (fM p X Z) 384 ∧ Below w.heap.size w w' := by
  obtain ⟨x0, x1, x2, rfl⟩ := hx.nk.sl
  obtain ⟨y0, y1, y2, rfl⟩ := hy.nk.sl
  have HN : Hid (Nq w (.slice x0 x1 x2) X 384 ∧ Nq w (.slice y0 y1 y2) Y 384) := ⟨hx, hy⟩
  have HY : Hid (0 < Y ∧ Y < p) := ⟨h0, h1⟩
  clear hx hy h0 h1
  go_enter Tryz.func87, Tryz.ntmps87
  go_wp2_with fail
  refine (fieldq hk _).mono ?_
  rintro e w1 ⟨f, rfl, mf, hB⟩
  obtain ⟨f0, f1, f2, rfl⟩ := mf.nk.sl
  have HB1 : Hid (Below _ _ _) := hB
  have HF : Hid (Nq w1 (.slice f0 f1 f2) p 384) := mf.nq
  clear mf hB
  go_wp2_with fail
  refine (q7inv hk.pm hk.cv.pr (HN.out.2.below HB1.out (Nat.le_refl _)) HF.out HY.out.1 HY.out.2).mono ?_
  rintro e w2 ⟨z, Z, hZ, rfl, h⟩
  have HZ : Hid (Inz Y p Z) := hZ
  have HB2 : Hid (Below _ _ _) := HB1.out.trans (h.bel.mono HB1.out.size)
  have Hz : Hid (Nq w2 z Z 384) := h.nq
  obtain ⟨z0, z1, z2, rfl⟩ := h.sl
  clear h hZ
  go_wp2_with fail
  refine (mulq hk (HN.out.1.below HB2.out (Nat.le_refl _)) Hz.out).mono ?_
  rintro e w3 ⟨r, rfl, m, hB⟩
  have HX : Hid (Mk w3 w.heap.size r (fM p X Z) 384 ∧ Below w.heap.size w w3) := ⟨m.base HB2.out.size, HB2.out.trans (hB.mono HB2.out.size)⟩
  obtain ⟨r0, r1, r2, rfl⟩ := m.nk.sl
  clear m hB
  go_wp2
  go_ret
  exact ⟨_, _, HZ.out, rfl, HX.out⟩
set_option maxHeartbeats 8000000 in
theorem onn (c : Int) (h1 : c ≠ 1) (h2 : c ≠ 2) (x y : Value) (X Y : Nat) (w : World) (hx : Nu w x X) (hy : Nu w y Y) (inf : Bool)  :
    Calls Tryz.prog 19 #[.int .i64 c, .agg #[x, y, .bool inf]] w fun e w' => e = .returned (.bool false) ∧ Below w.heap.size w w' := by
  obtain ⟨x0, x1, x2, rfl⟩ := hx.shape
  obtain ⟨y0, y1, y2, rfl⟩ := hy.shape
  have Hx0 : Hid (Nu w (.slice x0 x1 x2) X) := hx
  have Hy0 : Hid (Nu w (.slice y0 y1 y2) Y) := hy
  have HB0 : Hid (Below w.heap.size w w) := Below.refl _ _
  clear hx hy
  go_enter Tryz.func19, Tryz.ntmps19
  have Hs1 : Hid (Below w.heap.size w (w.alloc (.cells #[.slice x0 x1 x2, .slice y0 y1 y2, .bool inf] 26))) := alloc_below _ _
  have HbP0 : Hid (Bl _ _ _ _) := alloc_bl w [.slice x0 x1 x2, .slice y0 y1 y2, .bool inf] 26
  go_wp2_with fail
  generalize (w.alloc (.cells #[.slice x0 x1 x2, .slice y0 y1 y2, .bool inf] 26)) = wv2 at *
  refine (sizen c h1 h2 _).mono ?_
  rintro e wv2 ⟨rfl, rfl⟩
  have HB1 : Hid (Below _ _ _) := HB0.out.trans (Hs1.out.mono HB0.out.size)
  go_wp2
  go_ret
  exact ⟨rfl, HB1.out⟩
theorem dg_is0 (X : Nat) : ((((dg Bs X).length : Nat) : Int) == 0) = decide (X = 0) := by
  by_cases h : X = 0
  · subst h; rw [decide_eq_true rfl]; decide +kernel
  · rw [decide_eq_false h]
    have h1 : (dg Bs X).length ≠ 0 := fun e => by
      have e2 := List.eq_nil_of_length_eq_zero e
      have e3 := dg_nv Bs_two X
      rw [e2] at e3
      exact h e3.symm
    simpa using h1
set_option maxHeartbeats 8000000 in
theorem onq_inf {c s : Int} {p b n gx gy : Nat} (hk : Kv c p b n gx gy s) (x y : Value) (X Y : Nat) (w : World) (hx : Nu w x X) (hy : Nu w y Y)  :
    Calls Tryz.prog 19 #[.int .i64 c, .agg #[x, y, .bool true]] w fun e w' => e = .returned (.bool (onB p b X Y true)) ∧ Below w.heap.size w w' := by
  obtain ⟨x0, x1, x2, rfl⟩ := hx.shape
  obtain ⟨y0, y1, y2, rfl⟩ := hy.shape
  have Hx0 : Hid (Nu w (.slice x0 x1 x2) X) := hx
  have Hy0 : Hid (Nu w (.slice y0 y1 y2) Y) := hy
  have HB0 : Hid (Below w.heap.size w w) := Below.refl _ _
  clear hx hy
  go_enter Tryz.func19, Tryz.ntmps19
  have Hs1 : Hid (Below w.heap.size w (w.alloc (.cells #[.slice x0 x1 x2, .slice y0 y1 y2, .bool true] 26))) := alloc_below _ _
  have HbP0 : Hid (Bl _ _ _ _) := alloc_bl w [.slice x0 x1 x2, .slice y0 y1 y2, .bool true] 26
  go_wp2_with fail
  generalize (w.alloc (.cells #[.slice x0 x1 x2, .slice y0 y1 y2, .bool true] 26)) = wv2 at *
  have hs0 : (s == 0) = false := by rcases hk.s0 with hh | hh <;> subst hh <;> rfl
  refine (sizeq hk _).mono ?_
  rintro e wv2 ⟨rfl, rfl⟩
  have kP_0 : wv2.cell? ⟨w.heap.size, 0, none⟩ = some (.slice x0 x1 x2) := HbP0.out.cell 0 (by simp)
  have kP_1 : wv2.cell? ⟨w.heap.size, 1, none⟩ = some (.slice y0 y1 y2) := HbP0.out.cell 1 (by simp)
  have kP_2 : wv2.cell? ⟨w.heap.size, 2, none⟩ = some (.bool true) := HbP0.out.cell 2 (by simp)
  go_wp2_with fail
  clear kP_0 kP_1 kP_2
  have Hx1 : Hid (Nu _ _ _) := Hx0.out.below Hs1.out (Nat.le_refl _)
  refine (properq Hx1.out).mono ?_
  rintro e w3 ⟨uv, rfl, m, hB⟩
  have Hs4 : Hid (Below _ _ _) := hB
  obtain ⟨u0, u1, u2, rfl⟩ := m.nu.shape
  have Hu0 : Hid (Ob' w3 0 (.slice u0 u1 u2) X) := ⟨m.1.base (Nat.zero_le _), m.2⟩
  clear m hB
  have HbP1 : Hid (Bl _ _ _ _) := HbP0.out.below Hs4.out HbP0.out.lt
  have kP_0 : w3.cell? ⟨w.heap.size, 0, none⟩ = some (.slice x0 x1 x2) := HbP1.out.cell 0 (by simp)
  have kP_1 : w3.cell? ⟨w.heap.size, 1, none⟩ = some (.slice y0 y1 y2) := HbP1.out.cell 1 (by simp)
  have kP_2 : w3.cell? ⟨w.heap.size, 2, none⟩ = some (.bool true) := HbP1.out.cell 2 (by simp)
  go_wp2_with fail
  clear kP_0 kP_1 kP_2
  have Hy1 : Hid (Nu _ _ _) := Hy0.out.below (btr Hs1.out Hs4.out) (Nat.le_refl _)
  refine (properq Hy1.out).mono ?_
  rintro e w5 ⟨vv, rfl, m, hB⟩
  have Hs6 : Hid (Below _ _ _) := hB
  obtain ⟨v0, v1, v2, rfl⟩ := m.nu.shape
  have Hv0 : Hid (Ob' w5 0 (.slice v0 v1 v2) Y) := ⟨m.1.base (Nat.zero_le _), m.2⟩
  clear m hB
  have Hu1 : Hid (Ob' w5 0 (.slice u0 u1 u2) X) := Hu0.out.below Hs6.out
  have hX : (((u1 : Nat) : Int) == 0) = decide (X = 0) := by obtain ⟨ua, uc, ue, _⟩ := Hu1.out.1.nm (dg_sm Bs_two X); cases ue; exact dg_is0 X
  have hY : (((v1 : Nat) : Int) == 0) = decide (Y = 0) := by obtain ⟨va, vc, ve, _⟩ := Hv0.out.1.nm (dg_sm Bs_two Y); cases ve; exact dg_is0 Y
  by_cases hX0 : X = 0
  · rw [decide_eq_true hX0] at hX
    have HX0 : Hid (X = 0) := hX0
    clear hX0
    by_cases hY0 : Y = 0
    · rw [decide_eq_true hY0] at hY; have HY0 : Hid (Y = 0) := hY0; clear hY0
      have HbP2 : Hid (Bl _ _ _ _) := HbP1.out.below Hs6.out HbP1.out.lt
      have kP_0 : w5.cell? ⟨w.heap.size, 0, none⟩ = some (.slice x0 x1 x2) := HbP2.out.cell 0 (by simp)
      have kP_1 : w5.cell? ⟨w.heap.size, 1, none⟩ = some (.slice y0 y1 y2) := HbP2.out.cell 1 (by simp)
      have kP_2 : w5.cell? ⟨w.heap.size, 2, none⟩ = some (.bool true) := HbP2.out.cell 2 (by simp)
      have HB1 : Hid (Below _ _ _) := HB0.out.trans ((btr Hs1.out (btr Hs4.out Hs6.out)).mono HB0.out.size)
      go_wp2
      go_ret
      exact ⟨by unfold onB; simp [HX0.out, HY0.out], HB1.out⟩
    · rw [decide_eq_false hY0] at hY; have HY0 : Hid (¬ Y = 0) := hY0; clear hY0
      have HbP2 : Hid (Bl _ _ _ _) := HbP1.out.below Hs6.out HbP1.out.lt
      have kP_0 : w5.cell? ⟨w.heap.size, 0, none⟩ = some (.slice x0 x1 x2) := HbP2.out.cell 0 (by simp)
      have kP_1 : w5.cell? ⟨w.heap.size, 1, none⟩ = some (.slice y0 y1 y2) := HbP2.out.cell 1 (by simp)
      have kP_2 : w5.cell? ⟨w.heap.size, 2, none⟩ = some (.bool true) := HbP2.out.cell 2 (by simp)
      have HB1 : Hid (Below _ _ _) := HB0.out.trans ((btr Hs1.out (btr Hs4.out Hs6.out)).mono HB0.out.size)
      go_wp2
      go_ret
      exact ⟨by unfold onB; simp [HY0.out], HB1.out⟩
  · rw [decide_eq_false hX0] at hX; have HX0 : Hid (¬ X = 0) := hX0; clear hX0
    have HbP2 : Hid (Bl _ _ _ _) := HbP1.out.below Hs6.out HbP1.out.lt
    have kP_0 : w5.cell? ⟨w.heap.size, 0, none⟩ = some (.slice x0 x1 x2) := HbP2.out.cell 0 (by simp)
    have kP_1 : w5.cell? ⟨w.heap.size, 1, none⟩ = some (.slice y0 y1 y2) := HbP2.out.cell 1 (by simp)
    have kP_2 : w5.cell? ⟨w.heap.size, 2, none⟩ = some (.bool true) := HbP2.out.cell 2 (by simp)
    have HB1 : Hid (Below _ _ _) := HB0.out.trans ((btr Hs1.out (btr Hs4.out Hs6.out)).mono HB0.out.size)
    go_wp2
    go_ret
    exact ⟨by unfold onB; simp [HX0.out], HB1.out⟩
set_option maxHeartbeats 8000000 in
theorem onq_X {c s : Int} {p b n gx gy : Nat} (hk : Kv c p b n gx gy s) (x y : Value) (X Y : Nat) (w : World) (hx : Nu w x X) (hy : Nu w y Y) (hX : ¬ X < p) :
    Calls Tryz.prog 19 #[.int .i64 c, .agg #[x, y, .bool false]] w fun e w' => e = .returned (.bool false) ∧ Below w.heap.size w w' := by
  obtain ⟨x0, x1, x2, rfl⟩ := hx.shape
  obtain ⟨y0, y1, y2, rfl⟩ := hy.shape
  have Hx0 : Hid (Nu w (.slice x0 x1 x2) X) := hx
  have Hy0 : Hid (Nu w (.slice y0 y1 y2) Y) := hy
  have HB0 : Hid (Below w.heap.size w w) := Below.refl _ _
  clear hx hy
  go_enter Tryz.func19, Tryz.ntmps19
  have Hs1 : Hid (Below w.heap.size w (w.alloc (.cells #[.slice x0 x1 x2, .slice y0 y1 y2, .bool false] 26))) := alloc_below _ _
  have HbP0 : Hid (Bl _ _ _ _) := alloc_bl w [.slice x0 x1 x2, .slice y0 y1 y2, .bool false] 26
  go_wp2_with fail
  generalize (w.alloc (.cells #[.slice x0 x1 x2, .slice y0 y1 y2, .bool false] 26)) = wv2 at *
  have hs0 : (s == 0) = false := by rcases hk.s0 with hh | hh <;> subst hh <;> rfl
  refine (sizeq hk _).mono ?_
  rintro e wv2 ⟨rfl, rfl⟩
  have kP_0 : wv2.cell? ⟨w.heap.size, 0, none⟩ = some (.slice x0 x1 x2) := HbP0.out.cell 0 (by simp)
  have kP_1 : wv2.cell? ⟨w.heap.size, 1, none⟩ = some (.slice y0 y1 y2) := HbP0.out.cell 1 (by simp)
  have kP_2 : wv2.cell? ⟨w.heap.size, 2, none⟩ = some (.bool false) := HbP0.out.cell 2 (by simp)
  go_wp2_with fail
  clear kP_0 kP_1 kP_2
  have Hx1 : Hid (Nu _ _ _) := Hx0.out.below Hs1.out (Nat.le_refl _)
  refine (properq Hx1.out).mono ?_
  rintro e w3 ⟨uv, rfl, m, hB⟩
  have Hs4 : Hid (Below _ _ _) := hB
  obtain ⟨u0, u1, u2, rfl⟩ := m.nu.shape
  have Hu0 : Hid (Ob' w3 0 (.slice u0 u1 u2) X) := ⟨m.1.base (Nat.zero_le _), m.2⟩
  clear m hB
  have HbP1 : Hid (Bl _ _ _ _) := HbP0.out.below Hs4.out HbP0.out.lt
  have kP_0 : w3.cell? ⟨w.heap.size, 0, none⟩ = some (.slice x0 x1 x2) := HbP1.out.cell 0 (by simp)
  have kP_1 : w3.cell? ⟨w.heap.size, 1, none⟩ = some (.slice y0 y1 y2) := HbP1.out.cell 1 (by simp)
  have kP_2 : w3.cell? ⟨w.heap.size, 2, none⟩ = some (.bool false) := HbP1.out.cell 2 (by simp)
  go_wp2_with fail
  clear kP_0 kP_1 kP_2
  have Hy1 : Hid (Nu _ _ _) := Hy0.out.below (btr Hs1.out Hs4.out) (Nat.le_refl _)
  refine (properq Hy1.out).mono ?_
  rintro e w5 ⟨vv, rfl, m, hB⟩
  have Hs6 : Hid (Below _ _ _) := hB
  obtain ⟨v0, v1, v2, rfl⟩ := m.nu.shape
  have Hv0 : Hid (Ob' w5 0 (.slice v0 v1 v2) Y) := ⟨m.1.base (Nat.zero_le _), m.2⟩
  clear m hB
  have HbP2 : Hid (Bl _ _ _ _) := HbP1.out.below Hs6.out HbP1.out.lt
  have kP_0 : w5.cell? ⟨w.heap.size, 0, none⟩ = some (.slice x0 x1 x2) := HbP2.out.cell 0 (by simp)
  have kP_1 : w5.cell? ⟨w.heap.size, 1, none⟩ = some (.slice y0 y1 y2) := HbP2.out.cell 1 (by simp)
  have kP_2 : w5.cell? ⟨w.heap.size, 2, none⟩ = some (.bool false) := HbP2.out.cell 2 (by simp)
  go_wp2_with fail
  clear kP_0 kP_1 kP_2
  refine (fieldq hk _).mono ?_
  rintro e w7 ⟨f, rfl, mf, hB⟩
  have Hs8 : Hid (Below _ _ _) := hB
  obtain ⟨f10, f11, f12, rfl⟩ := mf.nk.sl
  have Hf10 : Hid (Mk w7 0 (.slice f10 f11 f12) p 384) := mf.base (Nat.zero_le _)
  clear mf hB
  obtain ⟨cX, HcX⟩ : ∃ z : Int, Hid (z = cmp3 (X : Int) (p : Int)) := ⟨_, rfl⟩
  have hdX : decide (cX ≥ 0) = true := by rw [HcX.out, cmp_ge', decide_eq_true hX]
  go_wp2_with fail
  have Hu1 : Hid (Ob' w7 0 (.slice u0 u1 u2) X) := Hu0.out.below (btr Hs6.out Hs8.out)
  have C := rcmpq Hu1.out.nu Hf10.out.nk.1
  rw [← HcX.out] at C
  refine C.mono ?_
  clear C
  rintro e w7 ⟨rfl, rfl⟩
  have h0' : (0 : Int) ≤ cX := of_decide_eq_true hdX
  have HB1 : Hid (Below _ _ _) := HB0.out.trans ((btr Hs1.out (btr Hs4.out (btr Hs6.out Hs8.out))).mono HB0.out.size)
  go_wp2
  go_ret
  exact ⟨rfl, HB1.out⟩
set_option maxHeartbeats 8000000 in
theorem onq_Y {c s : Int} {p b n gx gy : Nat} (hk : Kv c p b n gx gy s) (x y : Value) (X Y : Nat) (w : World) (hx : Nu w x X) (hy : Nu w y Y) (hX : X < p) (hY : ¬ Y < p) :
    Calls Tryz.prog 19 #[.int .i64 c, .agg #[x, y, .bool false]] w fun e w' => e = .returned (.bool false) ∧ Below w.heap.size w w' := by
  obtain ⟨x0, x1, x2, rfl⟩ := hx.shape
  obtain ⟨y0, y1, y2, rfl⟩ := hy.shape
  have Hx0 : Hid (Nu w (.slice x0 x1 x2) X) := hx
  have Hy0 : Hid (Nu w (.slice y0 y1 y2) Y) := hy
  have HB0 : Hid (Below w.heap.size w w) := Below.refl _ _
  clear hx hy
  go_enter Tryz.func19, Tryz.ntmps19
  have Hs1 : Hid (Below w.heap.size w (w.alloc (.cells #[.slice x0 x1 x2, .slice y0 y1 y2, .bool false] 26))) := alloc_below _ _
  have HbP0 : Hid (Bl _ _ _ _) := alloc_bl w [.slice x0 x1 x2, .slice y0 y1 y2, .bool false] 26
  go_wp2_with fail
  generalize (w.alloc (.cells #[.slice x0 x1 x2, .slice y0 y1 y2, .bool false] 26)) = wv2 at *
  have hs0 : (s == 0) = false := by rcases hk.s0 with hh | hh <;> subst hh <;> rfl
  refine (sizeq hk _).mono ?_
  rintro e wv2 ⟨rfl, rfl⟩
  have kP_0 : wv2.cell? ⟨w.heap.size, 0, none⟩ = some (.slice x0 x1 x2) := HbP0.out.cell 0 (by simp)
  have kP_1 : wv2.cell? ⟨w.heap.size, 1, none⟩ = some (.slice y0 y1 y2) := HbP0.out.cell 1 (by simp)
  have kP_2 : wv2.cell? ⟨w.heap.size, 2, none⟩ = some (.bool false) := HbP0.out.cell 2 (by simp)
  go_wp2_with fail
  clear kP_0 kP_1 kP_2
  have Hx1 : Hid (Nu _ _ _) := Hx0.out.below Hs1.out (Nat.le_refl _)
  refine (properq Hx1.out).mono ?_
  rintro e w3 ⟨uv, rfl, m, hB⟩
  have Hs4 : Hid (Below _ _ _) := hB
  obtain ⟨u0, u1, u2, rfl⟩ := m.nu.shape
  have Hu0 : Hid (Ob' w3 0 (.slice u0 u1 u2) X) := ⟨m.1.base (Nat.zero_le _), m.2⟩
  clear m hB
  have HbP1 : Hid (Bl _ _ _ _) := HbP0.out.below Hs4.out HbP0.out.lt
  have kP_0 : w3.cell? ⟨w.heap.size, 0, none⟩ = some (.slice x0 x1 x2) := HbP1.out.cell 0 (by simp)
  have kP_1 : w3.cell? ⟨w.heap.size, 1, none⟩ = some (.slice y0 y1 y2) := HbP1.out.cell 1 (by simp)
  have kP_2 : w3.cell? ⟨w.heap.size, 2, none⟩ = some (.bool false) := HbP1.out.cell 2 (by simp)
  go_wp2_with fail
  clear kP_0 kP_1 kP_2
  have Hy1 : Hid (Nu _ _ _) := Hy0.out.below (btr Hs1.out Hs4.out) (Nat.le_refl _)
  refine (properq Hy1.out).mono ?_
  rintro e w5 ⟨vv, rfl, m, hB⟩
  have Hs6 : Hid (Below _ _ _) := hB
  obtain ⟨v0, v1, v2, rfl⟩ := m.nu.shape
  have Hv0 : Hid (Ob' w5 0 (.slice v0 v1 v2) Y) := ⟨m.1.base (Nat.zero_le _), m.2⟩
  clear m hB
  have HbP2 : Hid (Bl _ _ _ _) := HbP1.out.below Hs6.out HbP1.out.lt
  have kP_0 : w5.cell? ⟨w.heap.size, 0, none⟩ = some (.slice x0 x1 x2) := HbP2.out.cell 0 (by simp)
  have kP_1 : w5.cell? ⟨w.heap.size, 1, none⟩ = some (.slice y0 y1 y2) := HbP2.out.cell 1 (by simp)
  have kP_2 : w5.cell? ⟨w.heap.size, 2, none⟩ = some (.bool false) := HbP2.out.cell 2 (by simp)
  go_wp2_with fail
  clear kP_0 kP_1 kP_2
  refine (fieldq hk _).mono ?_
  rintro e w7 ⟨f, rfl, mf, hB⟩
  have Hs8 : Hid (Below _ _ _) := hB
  obtain ⟨f10, f11, f12, rfl⟩ := mf.nk.sl
  have Hf10 : Hid (Mk w7 0 (.slice f10 f11 f12) p 384) := mf.base (Nat.zero_le _)
  clear mf hB
  obtain ⟨cX, HcX⟩ : ∃ z : Int, Hid (z = cmp3 (X : Int) (p : Int)) := ⟨_, rfl⟩
  have hdX : decide (cX ≥ 0) = false := by rw [HcX.out, cmp_ge', decide_eq_false (not_not_intro hX)]
  go_wp2_with fail
  have Hu1 : Hid (Ob' w7 0 (.slice u0 u1 u2) X) := Hu0.out.below (btr Hs6.out Hs8.out)
  have C := rcmpq Hu1.out.nu Hf10.out.nk.1
  rw [← HcX.out] at C
  refine C.mono ?_
  clear C
  rintro e w7 ⟨rfl, rfl⟩
  have h0' : ¬ (0 : Int) ≤ cX := of_decide_eq_false hdX
  go_wp2_with fail
  refine (fieldq hk _).mono ?_
  rintro e w9 ⟨f, rfl, mf, hB⟩
  have Hs10 : Hid (Below _ _ _) := hB
  obtain ⟨f20, f21, f22, rfl⟩ := mf.nk.sl
  have Hf20 : Hid (Mk w9 0 (.slice f20 f21 f22) p 384) := mf.base (Nat.zero_le _)
  clear mf hB
  obtain ⟨cY, HcY⟩ : ∃ z : Int, Hid (z = cmp3 (Y : Int) (p : Int)) := ⟨_, rfl⟩
  have hdY : decide (cY ≥ 0) = true := by rw [HcY.out, cmp_ge', decide_eq_true hY]
  go_wp2_with fail
  have Hv1 : Hid (Ob' w9 0 (.slice v0 v1 v2) Y) := Hv0.out.below (btr Hs8.out Hs10.out)
  have C := rcmpq Hv1.out.nu Hf20.out.nk.1
  rw [← HcY.out] at C
  refine C.mono ?_
  clear C
  rintro e w9 ⟨rfl, rfl⟩
  have h1' : (0 : Int) ≤ cY := of_decide_eq_true hdY
  have HB1 : Hid (Below _ _ _) := HB0.out.trans ((btr Hs1.out (btr Hs4.out (btr Hs6.out (btr Hs8.out Hs10.out)))).mono HB0.out.size)
  go_wp2
  go_ret
  exact ⟨rfl, HB1.out⟩
theorem lit_q (w : World) (V : Nat) (hV : V < Bs) (hp : V < pw 384) : Nq (w.alloc (.cells #[.int .u32 (V : Int)] 51)) (.slice (some ⟨w.heap.size, 0, none⟩) 1 1) V 384 :=
  ⟨⟨⟨[V], ⟨_, _, rfl, Nat.le_refl _, (alloc_bl w [.int .u32 (V : Int)] 51 : Bl 51 _ _ ([V].map U)).rn, fun y hy => by simp at hy; subst hy; exact hV⟩, by simp [nv], by simp⟩, fun _ _ _ e e2 => (by cases e; cases e2), fun _ _ _ e => (by cases e; decide)⟩, hp⟩
set_option maxHeartbeats 8000000 in
theorem onq_in {c s : Int} {p b n gx gy : Nat} (hk : Kv c p b n gx gy s) (x y : Value) (X Y : Nat) (w : World) (hx : Nu w x X) (hy : Nu w y Y) (hX : X < p) (hY : Y < p) :
    Calls Tryz.prog 19 #[.int .i64 c, .agg #[x, y, .bool false]] w fun e w' => e = .returned (.bool (onB p b X Y false)) ∧ Below w.heap.size w w' := by
  obtain ⟨oo, Hoo⟩ : ∃ z : Bool, Hid (z = onB p b X Y false) := ⟨_, rfl⟩
  rw [← Hoo.out]
  have HX : Hid (X < p ∧ Y < p) := ⟨hX, hY⟩
  obtain ⟨x0, x1, x2, rfl⟩ := hx.shape
  obtain ⟨y0, y1, y2, rfl⟩ := hy.shape
  have Hx0 : Hid (Nu w (.slice x0 x1 x2) X) := hx
  have Hy0 : Hid (Nu w (.slice y0 y1 y2) Y) := hy
  have HB0 : Hid (Below w.heap.size w w) := Below.refl _ _
  clear hx hy
  go_enter Tryz.func19, Tryz.ntmps19
  have Hs1 : Hid (Below w.heap.size w (w.alloc (.cells #[.slice x0 x1 x2, .slice y0 y1 y2, .bool false] 26))) := alloc_below _ _
  have HbP0 : Hid (Bl _ _ _ _) := alloc_bl w [.slice x0 x1 x2, .slice y0 y1 y2, .bool false] 26
  go_wp2_with fail
  generalize (w.alloc (.cells #[.slice x0 x1 x2, .slice y0 y1 y2, .bool false] 26)) = wv2 at *
  have hs0 : (s == 0) = false := by rcases hk.s0 with hh | hh <;> subst hh <;> rfl
  refine (sizeq hk _).mono ?_
  rintro e wv2 ⟨rfl, rfl⟩
  have kP_0 : wv2.cell? ⟨w.heap.size, 0, none⟩ = some (.slice x0 x1 x2) := HbP0.out.cell 0 (by simp)
  have kP_1 : wv2.cell? ⟨w.heap.size, 1, none⟩ = some (.slice y0 y1 y2) := HbP0.out.cell 1 (by simp)
  have kP_2 : wv2.cell? ⟨w.heap.size, 2, none⟩ = some (.bool false) := HbP0.out.cell 2 (by simp)
  go_wp2_with fail
  clear kP_0 kP_1 kP_2
  have Hx1 : Hid (Nu _ _ _) := Hx0.out.below Hs1.out (Nat.le_refl _)
  refine (properq Hx1.out).mono ?_
  rintro e w3 ⟨uv, rfl, m, hB⟩
  have Hs4 : Hid (Below _ _ _) := hB
  obtain ⟨u0, u1, u2, rfl⟩ := m.nu.shape
  have Hu0 : Hid (Ob' w3 0 (.slice u0 u1 u2) X) := ⟨m.1.base (Nat.zero_le _), m.2⟩
  clear m hB
  have HbP1 : Hid (Bl _ _ _ _) := HbP0.out.below Hs4.out HbP0.out.lt
  have kP_0 : w3.cell? ⟨w.heap.size, 0, none⟩ = some (.slice x0 x1 x2) := HbP1.out.cell 0 (by simp)
  have kP_1 : w3.cell? ⟨w.heap.size, 1, none⟩ = some (.slice y0 y1 y2) := HbP1.out.cell 1 (by simp)
  have kP_2 : w3.cell? ⟨w.heap.size, 2, none⟩ = some (.bool false) := HbP1.out.cell 2 (by simp)
  go_wp2_with fail
  clear kP_0 kP_1 kP_2
  have Hy1 : Hid (Nu _ _ _) := Hy0.out.below (btr Hs1.out Hs4.out) (Nat.le_refl _)
  refine (properq Hy1.out).mono ?_
  rintro e w5 ⟨vv, rfl, m, hB⟩
  have Hs6 : Hid (Below _ _ _) := hB
  obtain ⟨v0, v1, v2, rfl⟩ := m.nu.shape
  have Hv0 : Hid (Ob' w5 0 (.slice v0 v1 v2) Y) := ⟨m.1.base (Nat.zero_le _), m.2⟩
  clear m hB
  have HbP2 : Hid (Bl _ _ _ _) := HbP1.out.below Hs6.out HbP1.out.lt
  have kP_0 : w5.cell? ⟨w.heap.size, 0, none⟩ = some (.slice x0 x1 x2) := HbP2.out.cell 0 (by simp)
  have kP_1 : w5.cell? ⟨w.heap.size, 1, none⟩ = some (.slice y0 y1 y2) := HbP2.out.cell 1 (by simp)
  have kP_2 : w5.cell? ⟨w.heap.size, 2, none⟩ = some (.bool false) := HbP2.out.cell 2 (by simp)
  go_wp2_with fail
  clear kP_0 kP_1 kP_2
  refine (fieldq hk _).mono ?_
  rintro e w7 ⟨f, rfl, mf, hB⟩
  have Hs8 : Hid (Below _ _ _) := hB
  obtain ⟨f10, f11, f12, rfl⟩ := mf.nk.sl
  have Hf10 : Hid (Mk w7 0 (.slice f10 f11 f12) p 384) := mf.base (Nat.zero_le _)
  clear mf hB
  obtain ⟨cX, HcX⟩ : ∃ z : Int, Hid (z = cmp3 (X : Int) (p : Int)) := ⟨_, rfl⟩
  have hdX : decide (cX ≥ 0) = false := by rw [HcX.out, cmp_ge', decide_eq_false (not_not_intro hX)]
  go_wp2_with fail
  have Hu1 : Hid (Ob' w7 0 (.slice u0 u1 u2) X) := Hu0.out.below (btr Hs6.out Hs8.out)
  have C := rcmpq Hu1.out.nu Hf10.out.nk.1
  rw [← HcX.out] at C
  refine C.mono ?_
  clear C
  rintro e w7 ⟨rfl, rfl⟩
  have h0' : ¬ (0 : Int) ≤ cX := of_decide_eq_false hdX
  go_wp2_with fail
  refine (fieldq hk _).mono ?_
  rintro e w9 ⟨f, rfl, mf, hB⟩
  have Hs10 : Hid (Below _ _ _) := hB
  obtain ⟨f20, f21, f22, rfl⟩ := mf.nk.sl
  have Hf20 : Hid (Mk w9 0 (.slice f20 f21 f22) p 384) := mf.base (Nat.zero_le _)
  clear mf hB
  obtain ⟨cY, HcY⟩ : ∃ z : Int, Hid (z = cmp3 (Y : Int) (p : Int)) := ⟨_, rfl⟩
  have hdY : decide (cY ≥ 0) = false := by rw [HcY.out, cmp_ge', decide_eq_false (not_not_intro hY)]
  go_wp2_with fail
  have Hv1 : Hid (Ob' w9 0 (.slice v0 v1 v2) Y) := Hv0.out.below (btr Hs8.out Hs10.out)
  have C := rcmpq Hv1.out.nu Hf20.out.nk.1
  rw [← HcY.out] at C
  refine C.mono ?_
  clear C
  rintro e w9 ⟨rfl, rfl⟩
  have h1' : ¬ (0 : Int) ≤ cY := of_decide_eq_false hdY
  clear hX hY
  go_wp2_with fail
  have Hu2 : Hid (Ob' w9 0 (.slice u0 u1 u2) X) := Hu1.out.below Hs10.out
  refine (mulq hk (Hu2.out.mk (hk.pm.lt HX.out.1)).nq (Hu2.out.mk (hk.pm.lt HX.out.1)).nq).mono ?_
  rintro e w11 ⟨a1v, rfl, m, hB⟩
  have Hs12 : Hid (Below _ _ _) := hB
  obtain ⟨a10, a11, a12, rfl⟩ := m.nk.sl
  have Ha10 : Hid (Mk w11 0 (.slice a10 a11 a12) (fM p X X) 384) := m.base (Nat.zero_le _)
  clear m hB
  go_wp2_with fail
  have Hu3 : Hid (Ob' w11 0 (.slice u0 u1 u2) X) := Hu2.out.below Hs12.out
  refine (mulq hk (Hu3.out.mk (hk.pm.lt HX.out.1)).nq Ha10.out.nq).mono ?_
  rintro e w13 ⟨a2v, rfl, m, hB⟩
  have Hs14 : Hid (Below _ _ _) := hB
  obtain ⟨a20, a21, a22, rfl⟩ := m.nk.sl
  have Ha20 : Hid (Mk w13 0 (.slice a20 a21 a22) (fM p X (fM p X X)) 384) := m.base (Nat.zero_le _)
  clear m hB
  have Hs15 : Hid (Below w13.heap.size w13 (w13.alloc (.cells #[.int .u32 3] 51))) := alloc_below _ _
  have Hl30 : Hid (Nq (w13.alloc (.cells #[.int .u32 3] 51)) (.slice (some ⟨w13.heap.size, 0, none⟩) 1 1) 3 384) := lit_q w13 3 (by decide) (by decide +kernel)
  go_wp2_with fail
  generalize (w13.alloc (.cells #[.int .u32 3] 51)) = wv16 at *
  have Hu4 : Hid (Ob' wv16 0 (.slice u0 u1 u2) X) := Hu3.out.below (btr Hs14.out Hs15.out)
  refine (mulq hk Hl30.out (Hu4.out.mk (hk.pm.lt HX.out.1)).nq).mono ?_
  rintro e w17 ⟨a3v, rfl, m, hB⟩
  have Hs18 : Hid (Below _ _ _) := hB
  obtain ⟨a30, a31, a32, rfl⟩ := m.nk.sl
  have Ha30 : Hid (Mk w17 0 (.slice a30 a31 a32) (fM p 3 X) 384) := m.base (Nat.zero_le _)
  clear m hB
  go_wp2_with fail
  have Ha21 : Hid (Mk _ _ _ _ _) := Ha20.out.below (btr Hs15.out Hs18.out)
  refine (subq hk Ha21.out.nq Ha30.out.nq).mono ?_
  rintro e w19 ⟨a4v, rfl, m, hB⟩
  have Hs20 : Hid (Below _ _ _) := hB
  obtain ⟨a40, a41, a42, rfl⟩ := m.nk.sl
  have Ha40 : Hid (Mk w19 0 (.slice a40 a41 a42) (fS p (fM p X (fM p X X)) (fM p 3 X)) 384) := m.base (Nat.zero_le _)
  clear m hB
  go_wp2_with fail
  refine (bq hk _).mono ?_
  rintro e w21 ⟨bv_, rfl, m, hB⟩
  have Hs22 : Hid (Below _ _ _) := hB
  obtain ⟨b0, b1, b2, rfl⟩ := m.nk.sl
  have Hb0 : Hid (Mk w21 0 (.slice b0 b1 b2) b 384) := m.base (Nat.zero_le _)
  clear m hB
  go_wp2_with fail
  have Ha41 : Hid (Mk _ _ _ _ _) := Ha40.out.below Hs22.out
  refine (addq hk Ha41.out.nq Hb0.out.nq).mono ?_
  rintro e w23 ⟨a5v, rfl, m, hB⟩
  have Hs24 : Hid (Below _ _ _) := hB
  obtain ⟨a50, a51, a52, rfl⟩ := m.nk.sl
  have Ha50 : Hid (Mk w23 0 (.slice a50 a51 a52) (fA p (fS p (fM p X (fM p X X)) (fM p 3 X)) b) 384) := m.base (Nat.zero_le _)
  clear m hB
  go_wp2_with fail
  have Hv2 : Hid (Ob' w23 0 (.slice v0 v1 v2) Y) := Hv1.out.below (btr Hs12.out (btr Hs14.out (btr Hs15.out (btr Hs18.out (btr Hs20.out (btr Hs22.out Hs24.out))))))
  refine (mulq hk (Hv2.out.mk (hk.pm.lt HX.out.2)).nq (Hv2.out.mk (hk.pm.lt HX.out.2)).nq).mono ?_
  rintro e w25 ⟨a6v, rfl, m, hB⟩
  have Hs26 : Hid (Below _ _ _) := hB
  obtain ⟨a60, a61, a62, rfl⟩ := m.nk.sl
  have Ha60 : Hid (Mk w25 0 (.slice a60 a61 a62) (fM p Y Y) 384) := m.base (Nat.zero_le _)
  clear m hB
  obtain ⟨cR, HcR⟩ : ∃ z : Int, Hid (z = cmp3 ((fM p Y Y : Nat) : Int) ((fA p (fS p (fM p X (fM p X X)) (fM p 3 X)) b : Nat) : Int)) := ⟨_, rfl⟩
  have hon : (cR == 0) = onB p b X Y false := by rw [HcR.out, cmp_is0, doc_on hk.pm]; unfold onB; simp [HX.out.1, HX.out.2]
  rw [← Hoo.out] at hon
  go_wp2_with fail
  have Ha51 : Hid (Mk _ _ _ _ _) := Ha50.out.below Hs26.out
  have C := rcmpq Ha60.out.nk.1 Ha51.out.nk.1
  rw [← HcR.out] at C
  refine C.mono ?_
  clear C
  rintro e w25 ⟨rfl, rfl⟩
  have HB1 : Hid (Below _ _ _) := HB0.out.trans ((btr Hs1.out (btr Hs4.out (btr Hs6.out (btr Hs8.out (btr Hs10.out (btr Hs12.out (btr Hs14.out (btr Hs15.out (btr Hs18.out (btr Hs20.out (btr Hs22.out (btr Hs24.out Hs26.out)))))))))))).mono HB0.out.size)
  go_wp2
  go_ret
  exact ⟨rfl, HB1.out⟩
theorem onq {c s : Int} {p b n gx gy : Nat} (hk : Kv c p b n gx gy s) (x y : Value) (X Y : Nat) (w : World) (hx : Nu w x X) (hy : Nu w y Y) (inf : Bool) : Calls Tryz.prog 19 #[.int .i64 c, .agg #[x, y, .bool inf]] w fun e w' => e = .returned (.bool (onB p b X Y inf)) ∧ Below w.heap.size w w' := by
  cases inf with
  | true => exact onq_inf hk x y X Y w hx hy
  | false =>
    by_cases hX : X < p
    · by_cases hY : Y < p
      · exact onq_in hk x y X Y w hx hy hX hY
      · rw [show onB p b X Y false = false from by unfold onB; simp [hY]]
        exact onq_Y hk x y X Y w hx hy hX hY
    · rw [show onB p b X Y false = false from by unfold onB; simp [hX]]
      exact onq_X hk x y X Y w hx hy hX
end Go.Proofs.YtmngdaolgdhgmaaGreatDoor
