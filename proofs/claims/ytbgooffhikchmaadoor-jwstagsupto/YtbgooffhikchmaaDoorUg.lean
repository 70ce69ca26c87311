import Derived.Test.YtbgooffhikchmaaDoorTd
import Derived.Test.YtbgooffhikchmaaDoorShHmR
import Derived.Test.YtbgooffhikchmaaDoorShSumsH
import Derived.Lib.AppendStr
import Derived.Deep.Cut
namespace Go.Proofs.YtbgooffhikchmaaDoor
open Go.RowKit
set_option maxRecDepth 100000

/-- Bytes that can be read, in memory from B0 on. -/
def Nw (w : World) (B0 : Nat) (v : Value) (l : List UInt8) : Prop := ∃ (ao : Option Addr) (c : Nat), v = .slice ao l.length c ∧ l.length ≤ c ∧ Rd w ao l ∧ ∀ x, ao = some x → B0 ≤ x.block
theorem Nw.nil (w : World) (B0 : Nat) : Nw w B0 (.slice none 0 0) [] := ⟨none, 0, rfl, Nat.le_refl _, .inl rfl, fun x e => by cases e⟩
theorem strCB (S : List UInt8) : Lib.strCells ⟨S.toArray⟩ = S.map B := by
  unfold Lib.strCells
  simp [B]

set_option maxHeartbeats 4000000 in
/-- The document's Tag. -/
theorem rtag_any (a : Int) (ak : Option Addr) (ck : Nat) (key data : List UInt8) (w : World) (R : Sha.Rt w) (hk : Rd w ak key) (hak : ak = none → key.length = 0 ∧ ck = 0) (hd : data.length ≤ 10000000) :
    Calls Tryd.prog 6 #[.int .i64 a, .slice ak key.length ck, .string ⟨data.toArray⟩] w fun e w' => ∃ v, e = .returned (.tuple #[v, .int .i64 ((tgF a key data).2 : Nat)]) ∧ Nw w' w.heap.size v (tgF a key data).1 ∧ Below w.heap.size w w' := by
  have C1 := rfind_any a w
  have HR : Hid (Sha.Rt w) := R
  have HK : Hid (Rd w ak key) := hk
  clear R hk
  obtain ⟨i0, hi, hz0, hz1, hz2⟩ := info_parts infoB
  go_enter Tryd.func6, Tryd.ntmps6
  go_wp2_with fail
  refine C1.mono ?_
  clear C1
  rintro e w1 ⟨⟨i, j, k, l, m, f, rfl, hF⟩, B1⟩
  have HF : Hid (FdOk a l m f) := hF
  have HB1 : Hid (Below w.heap.size w w1) := B1
  clear hF B1
  obtain ⟨b, hb⟩ : ∃ b, w1.heap.size = b := ⟨_, rfl⟩
  have HZ : Hid (Bl 38 (w1.alloc (.cells #[.int .i64 0, .int .i64 0, .int .i64 0, .int .i64 0, .int .i64 0] 38)) b (rwC 0 0 0 0 0)) := by rw [← hb]; exact alloc_bl w1 (rwC 0 0 0 0 0) 38
  obtain ⟨wz, hwz⟩ : ∃ wz, (w1.alloc (.cells #[.int .i64 0, .int .i64 0, .int .i64 0, .int .i64 0, .int .i64 0] 38)).setRow b (rwC i j k l m).toArray = wz := ⟨_, rfl⟩
  have HBz : Hid (Bl 38 wz b (rwC i j k l m)) := by rw [← hwz]; exact set_bl HZ.out
  have HB2 : Hid (Below w.heap.size w wz) := by
    rw [← hwz]
    exact setRow_below _ (HB1.out.trans ((alloc_below w1 _).mono HB1.out.size)) (by rw [← hb]; exact HB1.out.size)
  have HWz : Hid ((w1.alloc (.cells #[.int .i64 0, .int .i64 0, .int .i64 0, .int .i64 0, .int .i64 0] 38)).setRow b (rwC i j k l m).toArray = wz) := hwz
  have hgi : (Tryd.prog.info? 38).map (·.size) = some 5 := by kernel_rfl
  clear hwz HB1
  unfold rwV zI
  go_upto_region 2 with (refine wpList_store_row rfl 38 (.tmp 8) (.tmp 14) rfl b (rwC i j k l m).toArray (by rw [← hb]; rfl) rfl 38 (rwC 0 0 0 0 0).toArray HZ.out hgi rfl (by simp [rwC, zI, Value.oneCell']) ?_; rw [HWz.out])
  clear HWz hgi HZ
  have c3 : wz.cell? ⟨b, 3, none⟩ = some (.int .i64 l) := HBz.out.cell 3 (by simp [rwC])
  have c4 : wz.cell? ⟨b, 4, none⟩ = some (.int .i64 m) := HBz.out.cell 4 (by simp [rwC])
  by_cases ha : a = 1 ∨ a = 2 ∨ a = 3
  · obtain ⟨rfl, rfl, rfl⟩ : f = true ∧ m = 1 ∧ l = a := by have h := HF.out; unfold FdOk at h; rwa [if_pos ha] at h
    have C2 := Sha.rsize_any l
    by_cases h2 : key.length < Sha.siz l ∨ 4096 < key.length
    · have HG : Hid (tgF l key data = ([], 90)) := (if_pos ha).trans (if_pos h2)
      by_cases h3 : key.length < Sha.siz l
      · have d1 : decide ((key.length : Int) < (Sha.siz l : Int)) = true := decide_eq_true (by omega)
        go_wp2_with fail
        refine (C2 _).mono ?_
        rintro e w4 ⟨rfl, rfl⟩
        go_wp2
        go_ret2
        rw [HG.out]
        exact ⟨_, rfl, Nw.nil _ _, HB2.out⟩
      · have d1 : decide ((key.length : Int) < (Sha.siz l : Int)) = false := decide_eq_false (by omega)
        have d2 : decide ((key.length : Int) > 4096) = true := decide_eq_true (by omega)
        go_wp2_with fail
        refine (C2 _).mono ?_
        rintro e w4 ⟨rfl, rfl⟩
        go_wp2
        go_ret2
        rw [HG.out]
        exact ⟨_, rfl, Nw.nil _ _, HB2.out⟩
    · have HG : Hid (tgF l key data = (Sha.tagF l key data, 0)) := (if_pos ha).trans (if_neg h2)
      have d1 : decide ((key.length : Int) < (Sha.siz l : Int)) = false := decide_eq_false (by omega)
      have d2 : decide ((key.length : Int) > 4096) = false := decide_eq_false (by omega)
      go_wp2_with fail
      refine (C2 _).mono ?_
      rintro e w4 ⟨rfl, rfl⟩
      clear C2
      go_upto_region 8 with (at_builtin; refine Lib.wpList_append_own_string _ rfl (.tmp 34) (.tmp 35) 23 9 rfl w4.heap.size 5 i0 Tryd.underlying23 Tryd.underlying9 hi hz0 hz1 hz2 _ 0 [] rfl (World.ownsRow_nil _ _ _ _) ⟨data.toArray⟩ rfl (by unfold maxLen; show 0 + data.toArray.size ≤ _; simp; omega) (by show 0 + data.toArray.size ≤ _; simp; omega) (Nat.le_refl _) ?_; intro v5 w5 h5 h6 _)
      have hds : (⟨data.toArray⟩ : ByteArray).size = data.length := by show data.toArray.size = _; simp
      rw [strCB, hds, Nat.zero_add, List.nil_append] at h5
      have B5 : Below w4.heap.size w4 w5 := below_grown h6
      have HO5 : Hid (Owb w5 w4.heap.size v5 data) := h5
      have HB5 : Hid (Below w.heap.size w w5) := HB2.out.trans (B5.mono HB2.out.size)
      have g3 : w5.cell? ⟨b, 3, none⟩ = some (.int .i64 l) := (HBz.out.below B5 HBz.out.lt).cell 3 (by simp [rwC])
      obtain ⟨at', ct, e5, _, r5⟩ := HO5.out.nb
      subst e5
      have C3 := Sha.rhsum_any l ak at' ck ct key data w5 (HR.out.below HB5.out (Nat.le_refl _)) (sha_rd (HK.out.below HB5.out (Nat.le_refl _))) (sha_rd r5) hak (by omega) hd
      clear h5 h6 B5 r5 c3 c4 HBz HB2 hds
      have htl := Sha.tagF_length l key data
      go_wp2_with fail
      refine C3.mono ?_
      rintro e w6 ⟨a6, c6, rfl, hc6, _, _, r6, n6, B6⟩
      have HB6 : Hid (Below w.heap.size w w6) := HB5.out.trans (B6.mono HB5.out.size)
      have HN : Hid (Nw w6 w.heap.size (.slice a6 (Sha.siz l) c6) (Sha.tagF l key data)) := ⟨a6, c6, by rw [htl], by rw [htl]; exact hc6, r6, fun x e => Nat.le_trans HB5.out.size (n6 x e)⟩
      clear r6 n6 B6 C3 htl
      go_wp2
      go_ret2
      rw [HG.out]
      exact ⟨_, rfl, HN.out, HB6.out⟩
  · have HG : Hid (tgF a key data = ([], 111)) := if_neg ha
    have hfm : f = false ∨ m ≠ 1 := by have h := HF.out; unfold FdOk at h; rwa [if_neg ha] at h
    cases f with
    | false =>
      go_wp2
      go_ret2
      rw [HG.out]
      exact ⟨_, rfl, Nw.nil _ _, HB2.out⟩
    | true =>
      have hm : m ≠ 1 := by rcases hfm with h | h; cases h; exact h
      have d1 : (m != 1) = true := by simpa using hm
      go_wp2
      go_ret2
      rw [HG.out]
      exact ⟨_, rfl, Nw.nil _ _, HB2.out⟩

end Go.Proofs.YtbgooffhikchmaaDoor
