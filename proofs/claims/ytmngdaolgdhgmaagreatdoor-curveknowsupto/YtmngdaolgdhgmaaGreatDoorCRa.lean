import Derived.Test.YtmngdaolgdhgmaaGreatDoorCJ
import Derived.Test.YtmngdaolgdhgmaaGreatDoorNtY5
import Derived.Test.YtmngdaolgdhgmaaGreatDoorNtRv4
import Derived.Test.YtmngdaolgdhgmaaGreatDoorCRm
namespace Go.Proofs.YtmngdaolgdhgmaaGreatDoor
open Go.RowKit

set_option maxRecDepth 100000

set_option maxHeartbeats 1000000 in
theorem qproper_any (ao : Option Addr) (n c : Nat) (xs : List Nat) (w : World) (hx : Rn w ao xs) (sx : Sm Bs xs) (hn : n = xs.length) (hl : n ≤ 1000000000) :
    Calls Tryz.prog 44 #[.slice ao n c] w fun e w' => ∃ r, e = .returned r ∧ Ow w' w.heap.size r (dg Bs (nv Bs xs)) ∧ Below w.heap.size w w' := by
  have Hx : Hid (Rn w ao xs) := hx
  have Hn : Hid (n = xs.length) := hn
  have Hs : Hid (Sm Bs xs) := sx
  have HN0 : Hid (OB w.heap.size w w (.slice none 0 0) (xs.take 0)) := OB.nil w
  clear hx hn sx
  go_enter Tryz.func44, Tryz.ntmps44
  go_wp2
  go_loop [4] (fun s => ∃ k : Nat, s = .int .i64 (k : Int) ∧ k ≤ n ∧ Hid (∀ j, k ≤ j → xs.getD j 0 = 0)) (fun s => (intOf s).toNat)
  case atStart => exact ⟨n, rfl, Nat.le_refl _, fun j hj => getD_none _ _ (by have := Hn.out; omega)⟩
  case round =>
    obtain ⟨k, rfl, hk, Hz⟩ := hrel
    by_cases hz : 0 < k ∧ xs.getD (k - 1) 0 = 0
    · obtain ⟨k, rfl⟩ : ∃ j, k = j + 1 := ⟨k - 1, by omega⟩
      obtain ⟨g, off, rfl, _, hcell⟩ := Hx.out.cell (by have := Hn.out; omega)
      have gc := hcell k (by have := Hn.out; omega)
      rw [Nat.add_sub_cancel] at hz
      rw [hz.2] at gc
      have Hz1 : Hid (∀ j, k ≤ j → xs.getD j 0 = 0) := fun j hj => by
        rcases Nat.lt_or_ge k j with h | h
        · exact Hz.out j h
        · obtain rfl : j = k := by omega
          exact hz.2
      have e1 : ((k + 1 : Nat) : Int) - 1 = (k : Int) := by omega
      rw [show ((0 : Nat) : Int) = 0 from rfl] at gc
      clear hcell hz
      go_wp2
      go_round
      case rel => exact ⟨k, rfl, by omega, Hz1⟩
      case measure => simp [intOf]
    · have Ht : Hid (tl xs = k) := tl_of xs k (by have := Hn.out; omega) Hz.out (by omega)
      have HX : Hid (xs.take k = dg Bs (nv Bs xs)) := by show _ = _; rw [← Ht.out]; exact trim_dg Bs_two Hs.out
      have HZ : Hid (True → k = 0 ∨ xs.getD (k - 1) 0 ≠ 0) := fun _ => by omega
      clear hz Hz Ht
      have KEY : k = 0 ∨ ∃ (j g off x : Nat), k = j + 1 ∧ ao = some ⟨g, off, none⟩ ∧ w.cell? ⟨g, off + j, none⟩ = some (.int .u32 (x : Int)) ∧ (((x : Int) == 0) = false) := by
        rcases Nat.eq_zero_or_pos k with h | h
        · exact .inl h
        · obtain ⟨g, off, e, _, hcell⟩ := Hx.out.cell (by have := Hn.out; omega)
          refine .inr ⟨k - 1, g, off, xs.getD (k - 1) 0, by omega, e, hcell (k - 1) (by have := Hn.out; omega), ?_⟩
          have := HZ.out trivial
          simp only [beq_eq_false_iff_ne]
          omega
      clear HZ
      rcases KEY with rfl | ⟨j, g, off, x, rfl, rfl, gc, hxb⟩
      · go_wp2
        go_loopw [3, 5] (fun s4 s5 wr => s4 = .slice none 0 0 ∧ s5 = .int .i64 0 ∧ wr = w) (fun _ _ _ => 0)
        case atStart => exact ⟨rfl, rfl, rfl⟩
        case round =>
          obtain ⟨rfl, rfl, rfl⟩ := hrel
          go_wp2
          go_ret
          refine ⟨_, rfl, ?_, Below.refl _ _⟩
          rw [← HX.out, List.take_zero]
          exact Ow.nil _ _
      · have e1 : ((j + 1 : Nat) : Int) - 1 = (j : Int) := by omega
        go_wp2
        clear gc hxb
        go_loopw [3, 5] (fun s4 s5 wr => ∃ i : Nat, s5 = .int .i64 (i : Int) ∧ i ≤ j + 1 ∧ Hid (OB w.heap.size w wr s4 (xs.take i))) (fun _ s _ => j + 1 - (intOf s).toNat)
        case atStart => exact ⟨0, rfl, Nat.zero_le _, HN0⟩
        case round =>
          clear HN0
          obtain ⟨i, rfl, hi, HI⟩ := hrel
          by_cases hlt : i < j + 1
          · have hix : i < xs.length := by have := Hn.out; omega
            obtain ⟨g', off', e', _, hcell⟩ := (Hx.out.below HI.out.bel (Nat.le_refl _)).cell (by omega)
            cases e'
            have gc := hcell i hix
            obtain ⟨y, Hy⟩ : ∃ y, Hid (xs.getD i 0 = y) := ⟨_, rfl⟩
            rw [Hy.out] at gc
            have hil : (i : Int) < (j : Int) + 1 := by omega
            have HL : Hid ((xs.take i).length ≤ 1000000000) := by show _ ≤ _; rw [List.length_take]; omega
            clear hcell
            go_wp2_with (at_builtin; refine append_one (w := w) rfl (.tmp 25) (.tmp 30) rfl w.heap.size _ (xs.take i) y rfl HI.out rfl HL.out (Nat.le_refl _) ?_; intro v5 w5 h5)
            have HO : Hid (OB w.heap.size w w5 v5 (xs.take (i + 1))) := by
              rw [List.take_succ_eq_append_getElem hix, ← getD_eq _ _ hix, Hy.out]; exact h5
            clear h5
            go_wp2
            go_roundw
            case rel => exact ⟨i + 1, by go_num, by omega, HO⟩
            case measure => simp [intOf]; omega
          · obtain rfl : i = j + 1 := by omega
            have hil : ¬ (((j + 1 : Nat) : Int) < (j : Int) + 1) := by omega
            go_wp2
            go_ret
            refine ⟨_, rfl, ?_, HI.out.bel⟩
            rw [← HX.out]
            exact HI.out.own

/-- A number as the document's calls want it. -/
def Nq (w : World) (v : Value) (V k : Nat) : Prop := Nd w v V 3000000 ∧ V < pw k
theorem Nq.below {w w' : World} {v : Value} {V k m : Nat} (h : Nq w v V k) (hb : Below m w w') (hn : w.heap.size ≤ m) : Nq w' v V k := ⟨h.1.below hb hn, h.2⟩
theorem Mk.nq {w : World} {base : Nat} {v : Value} {V k : Nat} (h : Mk w base v V k) : Nq w v V k := ⟨⟨h.nk.1, h.1.nz, h.1.cap⟩, h.2.2⟩
theorem Rk.nq {w w' : World} {v : Value} {V k : Nat} (h : Rk w w' v V k) : Nq w' v V k := h.mk.nq
theorem Nq.nk {w : World} {v : Value} {V k : Nat} (h : Nq w v V k) : Nk w v V k := ⟨h.1.1, h.2⟩
theorem q7add {p : Nat} (hp : Pm p) {x y m : Value} {X Y : Nat} {w : World} (hx : Nq w x X 384) (hy : Nq w y Y 384) (hm : Nq w m p 384) : Calls Tryz.prog 71 #[x, y, m] w fun e w' => ∃ r, e = .returned (.tuple #[r, .int .i64 0]) ∧ Rk w w' r (fA p X Y) 384 := by
  have C := dadd x y m X Y p w hx.1 hy.1 hm.1
  rw [rcode_fine hp.1 hp.lt4 hx.2 hy.2 (by decide) (by decide)] at C
  refine C.mono ?_
  rintro e w' (⟨h, _⟩ | ⟨_, r, h1, h2⟩)
  · exact absurd rfl h
  · exact ⟨r, h1, h2, hp.lt (fA_lt hp X Y)⟩
theorem q7sub {p : Nat} (hp : Pm p) {x y m : Value} {X Y : Nat} {w : World} (hx : Nq w x X 384) (hy : Nq w y Y 384) (hm : Nq w m p 384) : Calls Tryz.prog 72 #[x, y, m] w fun e w' => ∃ r, e = .returned (.tuple #[r, .int .i64 0]) ∧ Rk w w' r (fS p X Y) 384 := by
  have C := dsub x y m X Y p w hx.1 hy.1 hm.1
  rw [rcode_fine hp.1 hp.lt4 hx.2 hy.2 (by decide) (by decide)] at C
  refine C.mono ?_
  rintro e w' (⟨h, _⟩ | ⟨_, r, h1, h2⟩)
  · exact absurd rfl h
  · exact ⟨r, h1, h2, hp.lt (fS_lt hp X Y)⟩
theorem q7mul {p : Nat} (hp : Pm p) {x y m : Value} {X Y : Nat} {w : World} (hx : Nq w x X 384) (hy : Nq w y Y 384) (hm : Nq w m p 384) : Calls Tryz.prog 73 #[x, y, m] w fun e w' => ∃ r, e = .returned (.tuple #[r, .int .i64 0]) ∧ Rk w w' r (fM p X Y) 384 := by
  have C := dmul x y m X Y p w hx.1 hy.1 hm.1
  rw [rcode_fine hp.1 hp.lt4 hx.2 hy.2 (by decide) (by decide)] at C
  refine C.mono ?_
  rintro e w' (⟨h, _⟩ | ⟨_, r, h1, h2⟩)
  · exact absurd rfl h
  · exact ⟨r, h1, h2, hp.lt (fM_lt hp X Y)⟩
theorem q7inv {p : Nat} (hp : Pm p) (hpr : Prim p) {y m : Value} {Y : Nat} {w : World} (hy : Nq w y Y 384) (hm : Nq w m p 384) (h0 : 0 < Y) (h1 : Y < p) : Calls Tryz.prog 120 #[y, m] w fun e w' => ∃ r Z, Inz Y p Z ∧ e = .returned (.tuple #[r, .int .i64 0]) ∧ Rk w w' r Z 384 := by
  refine (dinv y m Y p w hy.1 hm.1).mono ?_
  have hr := rcode_inv hp (hp.lt h1)
  rintro e w' (⟨h, _⟩ | ⟨_, hg, _⟩ | ⟨_, Z, r, hZ, rfl, h⟩)
  · exact absurd hr h
  · refine absurd ?_ hg
    rw [Nat.gcd_comm]
    exact hpr.cop fun h => by have := Nat.le_of_dvd h0 h; omega
  · exact ⟨r, Z, hZ, rfl, h, hp.lt hZ.1⟩
end Go.Proofs.YtmngdaolgdhgmaaGreatDoor
