import Derived.Test.YtecapoknnnoheaaRv3
import Derived.Test.YtecapoknnnoheaaRv4
namespace Go.Proofs.Ytecapoknnnoheaa
open Go.RowKit

set_option maxHeartbeats 1000000 in
theorem lsame_all (a1 a2 : Option Addr) (c1 c2 n : Nat) (xs : List Nat) (w : World) (hr1 : Rn w a1 xs) (hr2 : Rn w a2 xs) (hl : xs.length = n) (hm : n ≤ 1000000000) :
    Calls Try.prog 13 #[.slice a1 n c1, .slice a2 n c2] w fun e w' => e = .returned (.bool true) ∧ ∃ q, w' = w.drewN q := by
  rcases Nat.eq_zero_or_pos n with h0 | h0
  · subst h0; exact lsame_nil a1 a2 c1 c2 w
  · obtain ⟨b1, o1, rfl, _, hc1⟩ := hr1.cell (by omega)
    obtain ⟨b2, o2, rfl, _, hc2⟩ := hr2.cell (by omega)
    have H1 : Hid (∀ j, j < n → w.cell? ⟨b1, o1 + j, none⟩ = some (.int .u32 ((xs.getD j 0 : Nat) : Int))) := fun j hj => hc1 j (by omega)
    have H2 : Hid (∀ j, j < n → w.cell? ⟨b2, o2 + j, none⟩ = some (.int .u32 ((xs.getD j 0 : Nat) : Int))) := fun j hj => hc2 j (by omega)
    clear hr1 hr2 hc1 hc2 hl h0
    go_enter Try.func13, Try.ntmps13
    go_wp2
    go_loopw [5] (fun s wr => ∃ k q : Nat, k ≤ n ∧ s = .int .i64 (k : Int) ∧ wr = w.drewN q) (fun s _ => n - (intOf s).toNat)
    case atStart => exact ⟨0, 0, Nat.zero_le _, rfl, rfl⟩
    case round =>
      obtain ⟨k, q, hk, rfl, rfl⟩ := hrel
      by_cases hlt : k < n
      · have k1 := H1.out k hlt
        have k2 := H2.out k hlt
        generalize xs.getD k 0 = x at k1 k2
        have hd : ((x : Int) != (x : Int)) = false := by simp
        have hlI : (k : Int) < (n : Int) := by omega
        go_wp2
        go_quiet (fail)
        go_wp2
        go_roundw
        case rel => exact ⟨k + 1, _, by omega, by go_num, rfl⟩
        case measure => simp [intOf]; omega
      · have hlI : ¬ (k : Int) < (n : Int) := by omega
        go_wp2
        go_ret
        exact ⟨rfl, q, rfl⟩

/-- A row of limbs with four marked ones behind. -/
def Rm (w : World) (g : Nat) (xs : List Nat) : Prop := Bl 29 w g ((xs ++ List.replicate 4 2779096485).map U)
theorem Rm.below {w w' : World} {g n : Nat} {xs : List Nat} (h : Rm w g xs) (hb : Below n w w') (hn : w.heap.size ≤ n) : Rm w' g xs := Bl.below h hb (Nat.lt_of_lt_of_le (Bl.lt h) hn)
theorem Rm.rn {w : World} {g : Nat} {xs : List Nat} (h : Rm w g xs) : Rn w (some ⟨g, 0, none⟩) xs := by
  have h1 := (Bl.rn h).take xs.length
  rwa [List.take_left] at h1
theorem Rm.nd {w : World} {g : Nat} {xs : List Nat} (h : Rm w g xs) (hs : Sm Bs xs) (hl : xs.length ≤ 1048576) : Nd w (.slice (some ⟨g, 0, none⟩) xs.length (xs.length + 4)) (nv Bs xs) 3000000 :=
  ⟨⟨xs, ⟨_, _, rfl, by omega, h.rn, hs⟩, rfl, by omega⟩, fun _ _ _ e e2 => (by cases e; cases e2), fun _ _ _ e => (by cases e; omega)⟩

theorem mark_set (n k : Nat) (xs : List Nat) (hx : xs.length = n) (hk : k < 4) : (xs ++ List.replicate k 2779096485 ++ List.replicate (4 - k) 0).set (n + k) 2779096485 = xs ++ List.replicate (k + 1) 2779096485 ++ List.replicate (4 - (k + 1)) 0 := by
  have e : 4 - k = (4 - (k + 1)) + 1 := by omega
  rw [e, List.replicate_succ, List.set_append_right _ _ (by simp; omega)]
  have e2 : n + k - (xs ++ List.replicate k 2779096485).length = 0 := by simp; omega
  rw [e2, List.set_cons_zero, show List.replicate (k + 1) 2779096485 = List.replicate k 2779096485 ++ [2779096485] by rw [List.replicate_succ']]
  simp

set_option maxHeartbeats 1000000 in
theorem roomy_v (ao : Option Addr) (n c : Nat) (xs : List Nat) (w : World) (hx : Rn w ao xs) (hn : n = xs.length) (hl : n ≤ 1048576) :
    Calls Try.prog 10 #[.slice ao n c] w fun e w' => e = .returned (.slice (some ⟨w.heap.size, 0, none⟩) n (n + 4)) ∧ Rm w' w.heap.size xs ∧ Below w.heap.size w w' := by
  obtain ⟨wm, hmk, hb, hbel, hsz⟩ := madeU w (n + 4) (by omega)
  obtain ⟨w1, hcp, hb1, hbut, hsz1⟩ := copyU wm w.heap.size 0 (n + 4) (n + 4) n c (n + 4) ao xs hb (hx.below hbel (Nat.le_refl _)) hn (by omega) (by omega)
  rw [show n + 4 - n = 4 by omega, List.replicate_zero, List.nil_append] at hb1
  have HI0 : Hid (Bl 29 w1 w.heap.size ((xs ++ List.replicate 0 2779096485 ++ List.replicate (4 - 0) 0).map U)) := by rw [List.replicate_zero, List.append_nil]; exact hb1
  have HE : Hid (Below w.heap.size w w1) := hbel.trans (hbut.below (by omega) (Nat.le_refl _))
  rw [show ((n + 4 : Nat) : Int) = (n : Int) + 4 by omega] at hmk
  have Hn : Hid (n = xs.length) := hn
  clear hb hb1 hbel hsz hbut hsz1 hx hn
  go_enter Try.func10, Try.ntmps10
  go_wp2
  clear hmk hcp
  go_loopw [4] (fun s wr => ∃ k : Nat, k ≤ 4 ∧ s = .int .i64 ((n : Int) + (k : Int)) ∧ Hid (Bl 29 wr w.heap.size ((xs ++ List.replicate k 2779096485 ++ List.replicate (4 - k) 0).map U)) ∧ Hid (Below w.heap.size w wr)) (fun s _ => n + 4 - (intOf s).toNat)
  case atStart => exact ⟨0, Nat.zero_le _, by first | rfl | simp, HI0, HE⟩
  case round =>
    clear HI0 HE
    obtain ⟨k, hk, rfl, HI, HE⟩ := hrel
    by_cases hlt : k < 4
    · have hlI : (n : Int) + (k : Int) < (n : Int) + 4 := by omega
      have hlen : n + k < (xs ++ List.replicate k 2779096485 ++ List.replicate (4 - k) 0).length := by have := Hn.out; simp; omega
      have gf := HI.out.frozen (n + k)
      obtain ⟨p, hp⟩ : ∃ p, (xs ++ List.replicate k 2779096485 ++ List.replicate (4 - k) 0).getD (n + k) 0 = p := ⟨_, rfl⟩
      have gc := HI.out.limb (n + k) p hlen hp
      have HS : Hid (True → (xs ++ List.replicate k 2779096485 ++ List.replicate (4 - k) 0).set (n + k) 2779096485 = xs ++ List.replicate (k + 1) 2779096485 ++ List.replicate (4 - (k + 1)) 0) := fun _ => mark_set n k xs Hn.out.symm hlt
      clear hp hlen
      go_wp2
      go_roundw
      case rel =>
        refine ⟨k + 1, by omega, by first | go_num | (simp; omega), ?_, HE.out.setCell (Nat.le_refl _) _⟩
        have h := HI.out.setU (n + k) 2779096485
        rw [HS.out trivial] at h
        exact h
      case measure => simp [intOf]; omega
    · obtain rfl : k = 4 := by omega
      have hlI : ¬ ((n : Int) + ((4 : Nat) : Int) < (n : Int) + 4) := by omega
      have HR : Hid (Rm wr w.heap.size xs) := by
        have h := HI.out
        rw [Nat.sub_self, List.replicate_zero, List.append_nil] at h
        exact h
      go_wp2
      go_ret
      exact ⟨rfl, HR.out, HE.out⟩


set_option maxHeartbeats 1000000 in
theorem spared_v (g n c : Nat) (ao : Option Addr) (xs : List Nat) (w : World) (hr : Rm w g xs) (hx : Rn w ao xs) (hn : n = xs.length) (hl : n ≤ 1048576) :
    Calls Try.prog 14 #[.slice (some ⟨g, 0, none⟩) n (n + 4), .slice ao n c] w fun e w' => e = .returned (.bool true) ∧ Below w.heap.size w w' := by
  have HR : Hid (Rm w g xs) := hr
  have HX : Hid (Rn w ao xs) := hx
  have Hn : Hid (n = xs.length) := hn
  clear hr hx hn
  go_enter Try.func14, Try.ntmps14
  go_wp2
  go_loopw [6] (fun s wr => ∃ k : Nat, k ≤ 4 ∧ s = .int .i64 ((n : Int) + (k : Int)) ∧ wr = w) (fun s _ => n + 4 - (intOf s).toNat)
  case atStart => exact ⟨0, Nat.zero_le _, by first | rfl | simp, rfl⟩
  case round =>
    obtain ⟨k, hk, rfl, rfl⟩ := hrel
    by_cases hlt : k < 4
    · have hlI : (n : Int) + (k : Int) < (n : Int) + 4 := by omega
      have gc := Bl.limb HR.out (n + k) 2779096485 (by have := Hn.out; simp; omega) (by
        rw [Hn.out, List.getD_eq_getElem?_getD, List.getElem?_append_right (by omega), show xs.length + k - xs.length = k by omega, List.getElem?_replicate, if_pos hlt]; rfl)
      rw [show ((2779096485 : Nat) : Int) = 2779096485 from rfl] at gc
      go_wp2
      go_roundw
      case rel => first | exact ⟨k + 1, by omega, by first | go_num | (simp; omega), rfl⟩ | exact ⟨k + 1, by omega, by first | go_num | (simp; omega), trivial⟩
      case measure => simp [intOf]; omega
    · obtain rfl : k = 4 := by omega
      have hlI : ¬ ((n : Int) + ((4 : Nat) : Int) < (n : Int) + 4) := by omega
      have C := lsame_all (some ⟨g, 0, none⟩) ao (n + 4) c n xs wr HR.out.rn HX.out Hn.out.symm (by omega)
      go_wp2_with fail
      refine C.mono ?_
      clear C
      rintro e w2 ⟨rfl, q, rfl⟩
      go_wp2
      go_ret
      exact ⟨rfl, below_drewN (Below.refl _ _) q⟩

/-- What the calls answer, in one form: an error's number and a number. -/
theorem Ans.om {w w' : World} {e : Ending} {c V : Nat} (h : Ans w w' e c V) : ∃ r, e = .returned (.tuple #[r, .int .i64 (c : Int)]) ∧ Om w' r (if c = 0 then V else 0) ∧ Below w.heap.size w w' := by
  rcases h with ⟨h0, h1, h2⟩ | ⟨h0, r, h1, h2⟩
  · refine ⟨_, h1, ?_, h2⟩
    rw [if_neg h0]
    exact ⟨by rw [dg_zero]; exact Ow.nil _ _, by rw [dg_zero]; exact Nat.zero_le _⟩
  · subst h0
    exact ⟨r, h1, h2.om, h2.bel⟩
theorem inv_out (A M : Nat) : ∃ c V : Nat, ∀ (w w' : World) (e : Ending), AnsI w w' e A M → ∃ r, e = .returned (.tuple #[r, .int .i64 (c : Int)]) ∧ Om w' r V ∧ Below w.heap.size w w' := by
  have hnil : ∀ w' : World, Om w' (.slice none 0 0) 0 := fun w' => ⟨by rw [dg_zero]; exact Ow.nil _ _, by rw [dg_zero]; exact Nat.zero_le _⟩
  by_cases h0 : rcode M (Lg A) = 0
  · by_cases h1 : Nat.gcd A M = 1
    · obtain ⟨Y, hY⟩ := inz_exists A M (rcode_zero h0).2.2 h1
      refine ⟨0, Y, fun w w' e h => ?_⟩
      obtain ⟨r, h2, h3⟩ := h.ok h0 hY
      exact ⟨r, h2, h3.om, h3.bel⟩
    · refine ⟨61, 0, fun w w' e h => ?_⟩
      obtain ⟨h2, h3⟩ := h.nope h0 h1
      exact ⟨_, h2, hnil w', h3⟩
  · refine ⟨rcode M (Lg A), 0, fun w w' e h => ?_⟩
    obtain ⟨h2, h3⟩ := h.bad h0
    exact ⟨_, h2, hnil w', h3⟩

/-- The limbs written over. -/
def xl (xs : List Nat) : List Nat := xs.map (· ^^^ 5)
theorem xor5_lt {x : Nat} (h : x < 4294967296) : x ^^^ 5 < 4294967296 := Nat.xor_lt_two_pow (n := 32) h (by decide)
theorem xl_len (xs : List Nat) : (xl xs).length = xs.length := by unfold xl; simp
theorem xl_sm {xs : List Nat} (h : Sm Bs xs) : Sm Bs (xl xs) := fun y hy => by
  unfold xl at hy
  obtain ⟨x, hx, rfl⟩ := List.mem_map.1 hy
  exact xor5_lt (h x hx)
theorem xl_set (xs : List Nat) (k : Nat) (hk : k < xs.length) (ms : List Nat) : ((xl xs).take k ++ xs.drop k ++ ms).set k (xs.getD k 0 ^^^ 5) = (xl xs).take (k + 1) ++ xs.drop (k + 1) ++ ms := by
  have h1 : ((xl xs).take k).length = k := by rw [List.length_take, xl_len]; omega
  rw [List.drop_eq_getElem_cons hk, List.append_assoc, List.set_append_right _ _ (by omega), h1, Nat.sub_self, List.cons_append, List.set_cons_zero, List.take_succ_eq_append_getElem (by rw [xl_len]; exact hk)]
  unfold xl
  rw [List.getElem_map, getD_eq _ _ hk]
  simp
theorem xl_get (xs : List Nat) (k : Nat) (hk : k < xs.length) (ms : List Nat) : ((xl xs).take k ++ xs.drop k ++ ms).getD k 0 = xs.getD k 0 := by
  have h1 : ((xl xs).take k).length = k := by rw [List.length_take, xl_len]; omega
  rw [List.append_assoc, List.getD_eq_getElem?_getD, List.getElem?_append_right (by omega), h1, Nat.sub_self, List.getElem?_append_left (by simp; omega), List.getElem?_drop, Nat.add_zero, List.getD_eq_getElem?_getD]

end Go.Proofs.Ytecapoknnnoheaa
