import Derived.Test.YthnogdkkdekgpaaDoorRsEnc
import Derived.Test.YthnogdkkdekgpaaDoorRsOdd
import Derived.Test.YthnogdkkdekgpaaDoorNtZ8
import Derived.Laws.IdiomStrings
namespace Go.Proofs.YthnogdkkdekgpaaDoor
open Go.RowKit

theorem ktobe_succ (n V : Nat) : tobe (n + 1) V = tobe n (V / 256) ++ [UInt8.ofNat (V % 256)] := by
  unfold tobe
  rw [List.range_succ, List.map_append]
  congr 1
  · apply List.map_congr_left
    intro i hi
    have hi2 := List.mem_range.1 hi
    congr 2
    rw [Nat.div_div_eq_div_mul, ← Nat.pow_succ', show n + 1 - 1 - i = (n - 1 - i).succ by omega]
  · simp
theorem kbv_tobe (n V : Nat) : bv (tobe n V) = V % 256 ^ n := by
  induction n generalizing V with
  | zero => simp [tobe, bv, Nat.mod_one]
  | succ n ih =>
    rw [ktobe_succ, bv_snoc, ih, UInt8.toNat_ofNat', Nat.mod_eq_of_lt (show V % 256 < 2 ^ 8 from Nat.mod_lt _ (by decide)), Nat.pow_succ, Nat.mul_comm (256 ^ n), Nat.mod_mul]
    omega
theorem ktobe_bv : ∀ (n : Nat) (m : List UInt8), m.length = n → tobe n (bv m) = m
  | 0, m, h => by
    have := List.eq_nil_of_length_eq_zero h
    subst this
    rfl
  | n + 1, m, h => by
    have hne : m ≠ [] := fun e => by rw [e] at h; simp at h
    have e := (List.dropLast_concat_getLast hne).symm
    have hl : m.dropLast.length = n := by rw [List.length_dropLast]; omega
    have hc := (m.getLast hne).toNat_lt
    have eb : bv m = bv m.dropLast * 256 + (m.getLast hne).toNat := by
      conv => lhs; rw [e]
      exact bv_snoc _ _
    rw [ktobe_succ, eb, show (bv m.dropLast * 256 + (m.getLast hne).toNat) / 256 = bv m.dropLast by omega, show (bv m.dropLast * 256 + (m.getLast hne).toNat) % 256 = (m.getLast hne).toNat by omega, ktobe_bv n m.dropLast hl, UInt8.ofNat_toNat]
    exact e.symm
/-- A number in so many bytes is that list just if it is its number. -/
theorem tobe_eq (n V : Nat) (l : List UInt8) (hl : l.length = n) (hV : V < 256 ^ n) : tobe n V = l ↔ V = bv l := by
  constructor
  · intro e
    rw [← e, kbv_tobe, Nat.mod_eq_of_lt hV]
  · intro e
    rw [e, ktobe_bv n l hl]
theorem lst_le (V n : Nat) (h : V < 256 ^ n) : lst V ≤ n := by
  unfold lst
  rcases Nat.lt_or_ge (8 * n) (bl V) with h1 | h1
  · exfalso
    have h0 : V ≠ 0 := fun e => by rw [e, bl_zero] at h1; omega
    have h2 := bl_le V h0
    have h3 : 2 ^ (8 * n) ≤ 2 ^ (bl V - 1) := Nat.pow_le_pow_right (by decide) (by omega)
    rw [Nat.pow_mul, show (2 : Nat) ^ 8 = 256 by rfl] at h3
    omega
  · omega

theorem odd_len (l : List UInt8) (lo hi : Nat) (h : oddV l lo hi = true) : lo ≤ 8 * l.length ∧ 8 * l.length ≤ hi + 7 ∧ 0 < l.length := by
  unfold oddV at h
  obtain ⟨h0, h1, _, h3, h4⟩ := of_decide_eq_true h
  have e := kbl l h0 h1
  have b8 := Lib.bitLen_le8 ⟨(l.getD 0 0).toNat, (l.getD 0 0).toNat_lt⟩
  have bb := bitLen_bl ⟨(l.getD 0 0).toNat, (l.getD 0 0).toNat_lt⟩
  simp only at b8 bb
  have b1 : 0 < Lib.bitLen (l.getD 0 0).toNat := by
    rw [bb]
    refine bl_pos _ fun e => h1 (UInt8.toNat_inj.1 ?_)
    rw [e]; rfl
  omega
/-- What a key's parts are. -/
structure KeyP (n e : List UInt8) : Prop where
  n1 : 256 ≤ n.length
  n2 : n.length ≤ 512
  e1 : 0 < e.length
  e2 : e.length ≤ 4
  two : 2 ≤ bv n
  nl : Lg (bv n) = false
  el : Lg (bv e) = false
theorem dg_bytes (V : Nat) (l : List UInt8) (k : Nat) (h : V ≤ bv l) (hk : l.length ≤ 4 * k) : (dg Bs V).length ≤ k := by
  refine dg_len Bs_two _ _ (Nat.lt_of_le_of_lt h (Nat.lt_of_lt_of_le (kbv_lt l) ?_))
  rw [Bs_256, ← Nat.pow_mul]
  exact Nat.pow_le_pow_right (by decide) hk
theorem Lg_lt {V : Nat} {l : List UInt8} (h : V ≤ bv l) (hl : l.length ≤ 512) : Lg V = false := Lg_of (dg_bytes V l 128 h (by omega))
theorem keyC_iff (n e : List UInt8) : keyC n e = 0 ↔ keyV n e = true := by
  unfold keyC
  split
  · simp_all
  · simp_all
theorem key_parts {n e : List UInt8} (h : keyC n e = 0) : KeyP n e := by
  have hk := (keyC_iff n e).1 h
  unfold keyV at hk
  rw [Bool.and_eq_true] at hk
  obtain ⟨h1, h2⟩ := hk
  have a1 := odd_len n 2048 4096 h1
  have a2 := odd_len e 2 32 h2
  have ho := (of_decide_eq_true h1).2.2
  refine ⟨by omega, by omega, by omega, by omega, ?_, Lg_lt (Nat.le_refl _) (by omega), Lg_lt (Nat.le_refl _) (by omega)⟩
  rcases Nat.lt_or_ge (bv n) 2 with h3 | h3
  · have h4 := bl_mono (show bv n ≤ 1 by omega)
    have h5 : bl 1 = 1 := by decide
    have := ho.2.1
    omega
  · exact h3

theorem emV_length (h : Int) (m : List UInt8) (size : Nat) (hs : 22 + Sha.siz h ≤ size) : (emV h m size).length = size := by
  unfold emV
  simp [info_length, Sha.sumF_length]
  omega
theorem siz_le64 (h : Int) : Sha.siz h ≤ 64 := by unfold Sha.siz; (repeat' split) <;> omega
theorem ecode_ok (h : Int) (n : Nat) (hh : isHB h = true) (h1 : 256 ≤ n) (h2 : n ≤ 512) : ecode h n = 0 := by
  have := siz_le64 h
  unfold ecode
  rw [hh, if_neg (by simp), if_neg (by omega)]
/-- What Verify answers. -/
def verV (h : Int) (n e m s : List UInt8) : Int :=
  if isHB h = false then 111 else if keyC n e ≠ 0 then 90 else if s.length ≠ n.length then 91 else if bv n ≤ bv s then 91 else if bv s ^ bv e % bv n = bv (emV h m n.length) then 0 else 91

theorem conv_any (w : World) (a : Option Addr) (c : Nat) (l : List UInt8) (h : Rd w a l) : (convert 23 9 (.slice a l.length c)).run Tryd.prog w = .ok (.string ⟨l.toArray⟩) w := by
  rcases h with h | ⟨g, off, rfl, hg, hc⟩
  · subst h
    rw [run_convert_bytes_string w 23 9 5 a ([] : List UInt8).length c Tryd.underlying23 Tryd.underlying5 Tryd.underlying9]
    cases a <;> simp [Conv.bytesToString, loadCells] <;> rfl
  · refine run_convert_bytes_back w 23 9 5 ⟨g, off, none⟩ c l Tryd.underlying23 Tryd.underlying5 Tryd.underlying9 ?_
    intro j hj
    rw [Addr.add_mid, hc j hj, List.getD_eq_getElem?_getD, List.getElem?_eq_getElem hj]
    rfl
theorem equal_any (a1 a2 : Option Addr) (c1 c2 : Nat) (l1 l2 : List UInt8) (w : World) (h1 : Rd w a1 l1) (h2 : Rd w a2 l2) :
    Calls Tryd.prog 45 #[.slice a1 l1.length c1, .slice a2 l2.length c2] w fun e w' => e = .returned (.bool (decide (l1 = l2))) ∧ w' = w := by
  have k1 := conv_any w a1 c1 l1 h1
  have k2 := conv_any w a2 c2 l2 h2
  have E : Hid ((l1 == l2) = decide (l1 = l2)) := by show _ = _; rw [Bool.eq_iff_iff, decide_eq_true_iff, beq_iff_eq]
  clear h1 h2
  go_enter Tryd.func45, Tryd.ntmps45
  go_wp2
  go_ret
  rw [← E.out]
  exact ⟨rfl, rfl⟩

theorem fromb (a : Option Addr) (c : Nat) (l : List UInt8) (w : World) (h : Rd w a l) (hl : l.length ≤ 3000000) : Calls Tryd.prog 26 #[.slice a l.length c] w fun e w' => ∃ r, e = .returned r ∧ Re w w' r (bv l) := by
  refine (fromBytes_any a c l w h (by omega)).mono ?_
  rintro e w' ⟨r, rfl, h1, h2⟩
  refine ⟨r, rfl, h1, ?_, h2⟩
  exact dg_bytes _ l _ (Nat.le_refl _) (by omega)

end Go.Proofs.YthnogdkkdekgpaaDoor
