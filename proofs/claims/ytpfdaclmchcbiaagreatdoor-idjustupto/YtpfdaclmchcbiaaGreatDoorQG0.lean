import Derived.Test.YtpfdaclmchcbiaaGreatDoorQD
import Derived.Test.YtpfdaclmchcbiaaGreatDoorCc
namespace Go.Proofs.YtpfdaclmchcbiaaGreatDoor
open Go.RowKit
set_option maxRecDepth 100000

theorem lhash_any (a : Int) (w : World) : Calls Tryz.prog 17 #[.int .i64 a] w fun e w' => e = .returned (.int .i64 (hhF a)) ∧ w' = w := by
  rcases hh_cases a with h | ⟨h0, h⟩
  · rcases h with rfl | rfl | rfl | rfl | rfl | rfl | rfl | rfl | rfl | rfl | rfl | rfl <;>
    · go_enter Tryz.func17, Tryz.ntmps17
      go_wp2
      go_ret
      exact ⟨rfl, rfl⟩
  · rw [h0]
    have d1 := h 1 (by omega) (by omega)
    have d2 := h 2 (by omega) (by omega)
    have d3 := h 3 (by omega) (by omega)
    have d4 := h 4 (by omega) (by omega)
    have d5 := h 5 (by omega) (by omega)
    have d6 := h 6 (by omega) (by omega)
    have d7 := h 7 (by omega) (by omega)
    have d8 := h 8 (by omega) (by omega)
    have d9 := h 9 (by omega) (by omega)
    have da := h 10 (by omega) (by omega)
    have db := h 11 (by omega) (by omega)
    have dc := h 12 (by omega) (by omega)
    clear h h0
    go_enter Tryz.func17, Tryz.ntmps17
    go_wp2
    go_ret
    exact ⟨rfl, rfl⟩


theorem shaped_whole {l : List Nd} (hs : shapedF l = true) {i : Nat} (hi : i < l.length) (hw : (l.getD i (nd0 0)).whole = true) : (l.getD i (nd0 0)).kind = 4 := by
  obtain ⟨d, n, ks, r, pre, post, _, e, hp, hm, _⟩ := (shaped_sq hs).at i hi
  have hn : l.getD i (nd0 0) = n := by
    rw [e, List.getD_eq_getElem?_getD, List.getElem?_append_right (by omega), hp, Nat.sub_self]
    rfl
  rw [hn] at hw ⊢
  exact wm_whole hm hw

def nM (l : List Nd) (k : List UInt8) : Nd := if memF l 0 k < 0 then nd0 0 else l.getD (memF l 0 k).toNat (nd0 0)
theorem nM_Q (q : Qs) (h : q.sh = true) (k : List UInt8) : nQ q k = nM q.c.val k := by unfold nQ nM mQ; rw [if_pos h]
theorem mQ_M (q : Qs) (h : q.sh = true) (k : List UInt8) : mQ q k = memF q.c.val 0 k := by unfold mQ; rw [if_pos h]

set_option maxRecDepth 100000 in
set_option maxHeartbeats 4000000 in
theorem lsaid_any (l : List Nd) (ao : Option Addr) (cap : Nat) (k t : List UInt8) (w : World) (h : NR w (.slice ao l.length cap) l ao cap) (hl : l.length ≤ 1000000000) :
    Calls Tryz.prog 39 #[.slice ao l.length cap, .string ⟨k.toArray⟩, .string ⟨t.toArray⟩] w fun e w' => e = .returned (.bool (sayF (nM l k) t)) ∧ Below w.heap.size w w' := by
  have CM := member_any _ l ao cap 0 k w h hl
  have HF : Hid (nM l k = if memF l 0 k < 0 then nd0 0 else l.getD (memF l 0 k).toNat (nd0 0)) := rfl
  have hlt : ∀ i ∈ kidsF l 0, i < l.length := kidsF_lt
  generalize nM l k = nn at *
  rcases mem_in l k with e | ⟨i, hi, e, _⟩
  · rw [e] at CM HF
    have HF2 : Hid (nn = nd0 0) := by show _ = _; rw [HF.out]; rfl
    clear hlt e HF h hl
    go_enter Tryz.func39, Tryz.ntmps39
    go_wp2_with fail
    refine CM.mono ?_
    clear CM
    rintro e w1 ⟨rfl, hB⟩
    have HB : Hid (Below w.heap.size w w1) := hB
    clear hB
    go_wp2
    go_ret
    exact ⟨by rw [HF2.out]; rfl, HB.out⟩
  · have hil := hlt i hi
    rw [e] at CM HF
    have HF2 : Hid (nn = l.getD i (nd0 0)) := by show _ = _; rw [HF.out, if_neg (by omega), Int.toNat_natCast]
    have q0 : decide ((i : Int) ≥ 0) = true := decide_eq_true (by omega)
    have q0' : decide (0 ≤ (i : Int)) = true := decide_eq_true (by omega)
    have q1 : (i : Int) < (l.length : Int) := by omega
    clear hlt e HF hi
    have HNq : Hid (∀ wq, Below w.heap.size w wq → NR wq (.slice ao l.length cap) l ao cap) := fun wq hq => h.below hq (Nat.le_refl _)
    clear h
    obtain ⟨n, hn⟩ : ∃ n, l.getD i (nd0 0) = n := ⟨_, rfl⟩
    rw [hn] at HF2
    have HN : Hid (l.getD i (nd0 0) = n) := hn
    clear hn
    by_cases h5 : n.kind = 5
    · by_cases ht : n.text = t
      · have qt : (n.text == t) = true := by simpa using ht
        have HR : Hid (sayF nn t = true) := by show _ = _; rw [HF2.out]; unfold sayF; rw [decide_eq_true h5, decide_eq_true ht]; rfl
        clear ht HF2
        go_enter Tryz.func39, Tryz.ntmps39
        go_wp2_with fail
        refine CM.mono ?_
        clear CM
        rintro e w1 ⟨rfl, hB⟩
        have HB : Hid (Below w.heap.size w w1) := hB
        obtain ⟨gv, off, hav, hc2⟩ := (HNq.out w1 hB).at hil
        rw [HN.out] at hc2
        subst hav
        have k0 : w1.cell? ⟨gv, off + i * 6, none⟩ = some (.int .i64 n.kind) := hc2 0 _ (by omega) rfl
        have k2 : w1.cell? ⟨gv, off + i * 6 + 2, none⟩ = some (.string ⟨n.text.toArray⟩) := hc2 2 _ (by omega) rfl
        clear hB hc2 HNq HN
        rw [h5] at k0
        generalize n.text = tx at *
        go_wp2
        go_ret
        exact ⟨by rw [HR.out]; rfl, HB.out⟩
      · have qt : (n.text == t) = false := by simpa using ht
        have HR : Hid (sayF nn t = false) := by show _ = _; rw [HF2.out]; unfold sayF; rw [decide_eq_true h5, decide_eq_false ht]; rfl
        clear ht HF2
        go_enter Tryz.func39, Tryz.ntmps39
        go_wp2_with fail
        refine CM.mono ?_
        clear CM
        rintro e w1 ⟨rfl, hB⟩
        have HB : Hid (Below w.heap.size w w1) := hB
        obtain ⟨gv, off, hav, hc2⟩ := (HNq.out w1 hB).at hil
        rw [HN.out] at hc2
        subst hav
        have k0 : w1.cell? ⟨gv, off + i * 6, none⟩ = some (.int .i64 n.kind) := hc2 0 _ (by omega) rfl
        have k2 : w1.cell? ⟨gv, off + i * 6 + 2, none⟩ = some (.string ⟨n.text.toArray⟩) := hc2 2 _ (by omega) rfl
        clear hB hc2 HNq HN
        rw [h5] at k0
        generalize n.text = tx at *
        go_wp2
        go_ret
        exact ⟨by rw [HR.out]; rfl, HB.out⟩
    · have q5 : (n.kind == 5) = false := by simpa using h5
      have HR : Hid (sayF nn t = false) := by show _ = _; rw [HF2.out]; unfold sayF; rw [decide_eq_false h5]; rfl
      clear HF2 h5
      go_enter Tryz.func39, Tryz.ntmps39
      go_wp2_with fail
      refine CM.mono ?_
      clear CM
      rintro e w1 ⟨rfl, hB⟩
      have HB : Hid (Below w.heap.size w w1) := hB
      obtain ⟨gv, off, hav, hc2⟩ := (HNq.out w1 hB).at hil
      rw [HN.out] at hc2
      subst hav
      have k0 : w1.cell? ⟨gv, off + i * 6, none⟩ = some (.int .i64 n.kind) := hc2 0 _ (by omega) rfl
      have k2 : w1.cell? ⟨gv, off + i * 6 + 2, none⟩ = some (.string ⟨n.text.toArray⟩) := hc2 2 _ (by omega) rfl
      clear hB hc2 HNq HN
      generalize n.kind = kd at *
      generalize n.text = tx at *
      go_wp2
      go_ret
      exact ⟨by rw [HR.out]; rfl, HB.out⟩

def lateF (at_ age lee now : Int) : Bool :=
  let low0 := wrap64 (wrap64 (at_ % 4294967296 + age) + lee)
  let high := wrap64 (at_ / 4294967296 + low0 / 4294967296)
  decide (high < now / 4294967296) || ((now / 4294967296 == high) && decide (low0 % 4294967296 < now % 4294967296))
theorem late_in (at_ age lee now : Int) (h1 : I64 at_) (h2 : 0 ≤ age ∧ age ≤ 2147483648) (h3 : 0 ≤ lee ∧ lee ≤ 600) : lateF at_ age lee now = decide (at_ + age + lee < now) := by
  unfold I64 at h1
  unfold lateF
  have e1 : wrap64 (at_ % 4294967296 + age) = at_ % 4294967296 + age := by unfold wrap64; omega
  have e2 : wrap64 (at_ % 4294967296 + age + lee) = at_ % 4294967296 + age + lee := by unfold wrap64; omega
  have e3 : wrap64 (at_ / 4294967296 + (at_ % 4294967296 + age + lee) / 4294967296) = at_ / 4294967296 + (at_ % 4294967296 + age + lee) / 4294967296 := by unfold wrap64; omega
  simp only [e1, e2, e3]
  by_cases h : at_ + age + lee < now
  · rw [decide_eq_true h]
    by_cases ha : at_ / 4294967296 + (at_ % 4294967296 + age + lee) / 4294967296 < now / 4294967296
    · rw [decide_eq_true ha]; rfl
    · rw [decide_eq_false ha, decide_eq_true (by omega), show (now / 4294967296 == at_ / 4294967296 + (at_ % 4294967296 + age + lee) / 4294967296) = true by rw [beq_iff_eq]; omega]; rfl
  · rw [decide_eq_false h, decide_eq_false (by omega), Bool.false_or]
    by_cases hb : now / 4294967296 = at_ / 4294967296 + (at_ % 4294967296 + age + lee) / 4294967296
    · rw [decide_eq_false (by omega), Bool.and_false]
    · rw [show (now / 4294967296 == at_ / 4294967296 + (at_ % 4294967296 + age + lee) / 4294967296) = false by rw [beq_eq_false_iff_ne]; exact hb]; rfl

set_option maxRecDepth 100000 in
set_option maxHeartbeats 4000000 in
theorem llate_any (at_ age lee now : Int) (w : World) (h1 : I64 at_) (h2 : I64 now) :
    Calls Tryz.prog 40 #[.int .i64 at_, .int .i64 age, .int .i64 lee, .int .i64 now] w fun e w' => e = .returned (.bool (lateF at_ age lee now)) ∧ w' = w := by
  have _ := h1; have _ := h2
  have e1 := bits_low at_
  have e3 := bits_low now
  have HF : Hid (lateF at_ age lee now = (decide (wrap64 (at_ / 4294967296 + wrap64 (wrap64 (at_ % 4294967296 + age) + lee) / 4294967296) < now / 4294967296) || ((now / 4294967296 == wrap64 (at_ / 4294967296 + wrap64 (wrap64 (at_ % 4294967296 + age) + lee) / 4294967296)) && decide (wrap64 (wrap64 (at_ % 4294967296 + age) + lee) % 4294967296 < now % 4294967296)))) := rfl
  go_enter Tryz.func40, Tryz.ntmps40
  go_upto_region 2 with fail
  generalize wrap64 (wrap64 (at_ % 4294967296 + age) + lee) = L0 at *
  have e2 := bits_low L0
  go_upto_region 3 with fail
  generalize wrap64 (at_ / 4294967296 + L0 / 4294967296) = H0 at *
  go_upto_region 4 with fail
  have r1 : decide (now / 4294967296 > H0) = decide (H0 < now / 4294967296) := rfl
  by_cases hb1 : H0 < now / 4294967296
  · have q1 : decide (H0 < now / 4294967296) = true := decide_eq_true hb1
    have q1' : decide (now / 4294967296 > H0) = true := decide_eq_true hb1
    have HR : Hid (lateF at_ age lee now = true) := by show _ = _; rw [HF.out, q1]; rfl
    clear HF hb1 r1
    go_wp2
    go_ret
    exact ⟨by rw [HR.out]; rfl, rfl⟩
  · have q1 : decide (H0 < now / 4294967296) = false := decide_eq_false hb1
    have q1' : decide (now / 4294967296 > H0) = false := decide_eq_false hb1
    by_cases hb2 : now / 4294967296 = H0
    · have q2 : (now / 4294967296 == H0) = true := by rw [beq_iff_eq]; exact hb2
      by_cases hb3 : L0 % 4294967296 < now % 4294967296
      · have q3 : decide (L0 % 4294967296 < now % 4294967296) = true := decide_eq_true hb3
        have q3' : decide (now % 4294967296 > L0 % 4294967296) = true := decide_eq_true hb3
        have HR : Hid (lateF at_ age lee now = true) := by show _ = _; rw [HF.out, q1, q2, q3]; rfl
        clear HF hb1 hb2 hb3 r1
        go_wp2
        go_ret
        exact ⟨by rw [HR.out]; rfl, rfl⟩
      · have q3 : decide (L0 % 4294967296 < now % 4294967296) = false := decide_eq_false hb3
        have q3' : decide (now % 4294967296 > L0 % 4294967296) = false := decide_eq_false hb3
        have HR : Hid (lateF at_ age lee now = false) := by show _ = _; rw [HF.out, q1, q2, q3]; rfl
        clear HF hb1 hb2 hb3 r1
        go_wp2
        go_ret
        exact ⟨by rw [HR.out]; rfl, rfl⟩
    · have q2 : (now / 4294967296 == H0) = false := by rw [beq_eq_false_iff_ne]; exact hb2
      have HR : Hid (lateF at_ age lee now = false) := by show _ = _; rw [HF.out, q1, q2]; rfl
      clear HF hb1 hb2 r1
      go_wp2
      go_ret
      exact ⟨by rw [HR.out]; rfl, rfl⟩

end Go.Proofs.YtpfdaclmchcbiaaGreatDoor
