import Derived.Test.YtdhfjhdlimmjhaaGreatDoorB6Z
import Derived.Deep.QuietTactic
import Derived.BigQuiet
import Derived.Lib.Bytealg
import Derived.Deep.RegionWith
import Derived.Deep.DeepAppendWide
namespace Go.Proofs.YtdhfjhdlimmjhaaGreatDoor.B64
open Go.RowKit
set_option maxRecDepth 100000

def ix (row : ByteArray) (c : UInt8) : Int := Lib.indexByte row.data.toList c

end Go.Proofs.YtdhfjhdlimmjhaaGreatDoor.B64
namespace Go.Proofs.YtdhfjhdlimmjhaaGreatDoor.B64
open Go.RowKit
set_option maxRecDepth 100000

def firstNo (row : ByteArray) (l : List UInt8) : Nat := l.findIdx fun c => ix row c < 0

end Go.Proofs.YtdhfjhdlimmjhaaGreatDoor.B64
namespace Go.Proofs.YtdhfjhdlimmjhaaGreatDoor.B64
open Go.RowKit
set_option maxRecDepth 100000

def cut1 (l : List UInt8) : List UInt8 := if l.getLast? = some 61 then l.dropLast else l

theorem last_eq (l : List UInt8) (h : 1 ≤ l.length) : (((⟨l.toArray⟩ : ByteArray).extract (l.length - 1) l.length).toList == [61]) = decide (l.getLast? = some 61) := by
  have hne : l ≠ [] := by intro e; subst e; simp at h
  obtain ⟨m, x, rfl⟩ : ∃ m x, l = m ++ [x] := ⟨l.dropLast, l.getLast hne, (List.dropLast_concat_getLast hne).symm⟩
  rw [Lib.extract_toList]
  show (((m ++ [x]).drop ((m ++ [x]).length - 1)).take ((m ++ [x]).length - ((m ++ [x]).length - 1)) == [61]) = _
  have e2 : (m ++ [x]).length - ((m ++ [x]).length - 1) = 1 := by simp
  have e3 : (m ++ [x]).length - 1 = m.length := by simp
  rw [e2, e3, List.drop_left]
  by_cases hc : x = 61 <;> simp [hc]

end Go.Proofs.YtdhfjhdlimmjhaaGreatDoor.B64
namespace Go.Proofs.YtdhfjhdlimmjhaaGreatDoor.B64
open Go.RowKit
set_option maxRecDepth 100000

def nx (row : ByteArray) (c : UInt8) : Nat := (ix row c).toNat

def bt (N j : Nat) : Nat := N * 256 ^ j % 16777216

def bs (N j : Nat) : List UInt8 := (List.range j).map fun i => UInt8.ofNat (bt N i / 65536)
def grpN (row : ByteArray) (l : List UInt8) : Nat := match l with
  | [a, b] => nx row a * 262144 + nx row b * 4096
  | [a, b, c] => nx row a * 262144 + nx row b * 4096 + nx row c * 64
  | [a, b, c, d] => nx row a * 262144 + nx row b * 4096 + nx row c * 64 + nx row d
  | _ => 0

def dec (row : ByteArray) : List UInt8 → Option (List UInt8)
  | a :: b :: c :: d :: r => (dec row r).map (bs (grpN row [a, b, c, d]) 3 ++ ·)
  | [a, b, c] => if bt (grpN row [a, b, c]) 2 = 0 then some (bs (grpN row [a, b, c]) 2) else none
  | [a, b] => if bt (grpN row [a, b]) 1 = 0 then some (bs (grpN row [a, b]) 1) else none
  | _ => some []

end Go.Proofs.YtdhfjhdlimmjhaaGreatDoor.B64
namespace Go.Proofs.YtdhfjhdlimmjhaaGreatDoor.B64
open Go.RowKit
set_option maxRecDepth 100000

def decU (l : List UInt8) : Option (List UInt8) × Int × Int :=
  if firstNo urlRow l < l.length then (none, 20, firstNo urlRow l)
  else if l.length % 4 = 1 then (none, 21, l.length)
  else match dec urlRow l with
    | some bs => (some bs, 0, 0)
    | none => (none, 22, (l.length : Int) - 1)

def decM (n : Nat) (m : List UInt8) : Option (List UInt8) × Int × Int :=
  if firstNo stdRow m < m.length then (none, 20, firstNo stdRow m)
  else if n % 4 ≠ 0 then (none, 21, n)
  else match dec stdRow m with
    | some bs => (some bs, 0, 0)
    | none => (none, 22, (m.length : Int) - 1)

def decS (l : List UInt8) : Option (List UInt8) × Int × Int := decM l.length (cut1 (cut1 l))

def Ans (w : World) (B0 : Nat) (v : Value) (o : Option (List UInt8)) : Prop :=
  match o with
  | none => v = .slice none 0 0
  | some bs => ∃ g cap, B0 ≤ g ∧ v = .slice (some ⟨g, 0, none⟩) bs.length cap ∧ w.ownsRow B0 5 1 v bs.length (bs.map B)

end Go.Proofs.YtdhfjhdlimmjhaaGreatDoor.B64
namespace Go.Proofs.YtdhfjhdlimmjhaaGreatDoor.B64
open Go.RowKit
set_option maxRecDepth 100000

theorem sg2 (row : ByteArray) (N : Nat) : sg row N 2 = [at6 row (N / 262144 % 64), at6 row (N / 4096 % 64)] := by
  simp [sg, List.range_succ, dg]
theorem sg3 (row : ByteArray) (N : Nat) : sg row N 3 = [at6 row (N / 262144 % 64), at6 row (N / 4096 % 64), at6 row (N / 64 % 64)] := by
  simp [sg, List.range_succ, dg]
theorem sg4 (row : ByteArray) (N : Nat) : sg row N 4 = [at6 row (N / 262144 % 64), at6 row (N / 4096 % 64), at6 row (N / 64 % 64), at6 row (N % 64)] := by
  simp [sg, List.range_succ, dg]

theorem bs1 (N : Nat) : bs N 1 = [UInt8.ofNat (N % 16777216 / 65536)] := by simp [bs, List.range_succ, bt]
theorem bs2 (N : Nat) : bs N 2 = [UInt8.ofNat (N % 16777216 / 65536), UInt8.ofNat (N * 256 % 16777216 / 65536)] := by simp [bs, List.range_succ, bt]
theorem bs3 (N : Nat) : bs N 3 = [UInt8.ofNat (N % 16777216 / 65536), UInt8.ofNat (N * 256 % 16777216 / 65536), UInt8.ofNat (N * 65536 % 16777216 / 65536)] := by simp [bs, List.range_succ, bt]

theorem bv (M : Nat) : (UInt8.ofNat (M % 16777216 / 65536)).toNat = M % 16777216 / 65536 := by
  rw [UInt8.toNat_ofNat']; omega

def Apart (row : ByteArray) : Prop := ∀ q, q < 64 → nx row (at6 row q) = q

theorem byteN (x : UInt8) (n : Nat) (h : n = x.toNat) : UInt8.ofNat n = x := by subst h; simp

theorem dec_enc (row : ByteArray) (hap : Apart row) : ∀ l : List UInt8, dec row (enc row l) = some l
  | [] => rfl
  | [x] => by
    have hx := x.toNat_lt
    rw [enc, sg2]
    have hN : grpN row [at6 row (x.toNat * 65536 / 262144 % 64), at6 row (x.toNat * 65536 / 4096 % 64)] = x.toNat * 65536 := by
      show nx row _ * 262144 + nx row _ * 4096 = _
      rw [hap _ (by omega), hap _ (by omega)]; omega
    rw [dec, hN, if_pos (by show _ % _ = 0; omega), bs1, byteN x _ (by omega)]
  | [x, y] => by
    have hx := x.toNat_lt; have hy := y.toNat_lt
    rw [enc, sg3]
    have hN : grpN row [at6 row ((x.toNat * 65536 + y.toNat * 256) / 262144 % 64), at6 row ((x.toNat * 65536 + y.toNat * 256) / 4096 % 64), at6 row ((x.toNat * 65536 + y.toNat * 256) / 64 % 64)] = x.toNat * 65536 + y.toNat * 256 := by
      show nx row _ * 262144 + nx row _ * 4096 + nx row _ * 64 = _
      rw [hap _ (by omega), hap _ (by omega), hap _ (by omega)]; omega
    rw [dec, hN, if_pos (by show _ % _ = 0; omega), bs2, byteN x _ (by omega), byteN y _ (by omega)]
  | x :: y :: z :: r => by
    have hx := x.toNat_lt; have hy := y.toNat_lt; have hz := z.toNat_lt
    rw [enc_cons3, sg4]
    have hN : grpN row [at6 row ((x.toNat * 65536 + y.toNat * 256 + z.toNat) / 262144 % 64), at6 row ((x.toNat * 65536 + y.toNat * 256 + z.toNat) / 4096 % 64), at6 row ((x.toNat * 65536 + y.toNat * 256 + z.toNat) / 64 % 64), at6 row ((x.toNat * 65536 + y.toNat * 256 + z.toNat) % 64)] = x.toNat * 65536 + y.toNat * 256 + z.toNat := by
      show nx row _ * 262144 + nx row _ * 4096 + nx row _ * 64 + nx row _ = _
      rw [hap _ (by omega), hap _ (by omega), hap _ (by omega), hap _ (by omega)]; omega
    show dec row (_ :: _ :: _ :: _ :: enc row r) = _
    rw [dec, hN, dec_enc row hap r, bs3, byteN x _ (by omega), byteN y _ (by omega), byteN z _ (by omega)]
    rfl

end Go.Proofs.YtdhfjhdlimmjhaaGreatDoor.B64
namespace Go.Proofs.YtdhfjhdlimmjhaaGreatDoor.B64
open Go.RowKit
set_option maxRecDepth 100000

end Go.Proofs.YtdhfjhdlimmjhaaGreatDoor.B64
namespace Go.Proofs.YtdhfjhdlimmjhaaGreatDoor.B64
open Go.RowKit
set_option maxRecDepth 100000

def dgs : List UInt8 → List Nat
  | [] => []
  | [x] => (List.range 2).map (dg (x.toNat * 65536))
  | [x, y] => (List.range 3).map (dg (x.toNat * 65536 + y.toNat * 256))
  | x :: y :: z :: r => (List.range 4).map (dg (x.toNat * 65536 + y.toNat * 256 + z.toNat)) ++ dgs r

theorem sg_map (row : ByteArray) (N n : Nat) : sg row N n = ((List.range n).map (dg N)).map (at6 row) := by
  simp [sg, Function.comp_def]

theorem enc_map (row : ByteArray) : ∀ l : List UInt8, enc row l = (dgs l).map (at6 row)
  | [] => rfl
  | [x] => by rw [enc, dgs, sg_map]
  | [x, y] => by rw [enc, dgs, sg_map]
  | x :: y :: z :: r => by rw [enc_cons3, dgs, List.map_append, sg_map, enc_map row r]

def Found (row : ByteArray) : Prop := ∀ q, q < 64 → 0 ≤ ix row (at6 row q)
def Pair (x y : UInt8) : Prop :=
  (x = 45 ∧ y = 43) ∨ (x = 95 ∧ y = 47) ∨ (x = y ∧ x ≠ 43 ∧ x ≠ 47 ∧ x ≠ 45 ∧ x ≠ 95)

end Go.Proofs.YtdhfjhdlimmjhaaGreatDoor.B64
namespace Go.Proofs.YtdhfjhdlimmjhaaGreatDoor.B64
open Go.RowKit
set_option maxRecDepth 100000

def rowOf (std : Bool) : ByteArray := if std then stdRow else urlRow

set_option maxHeartbeats 400000 in
theorem signs_any (std : Bool) (w : World) : Calls Tryz.prog 75 #[.bool std] w fun e w' => e = .returned (.string (rowOf std)) ∧ w' = w := by
  cases std
  · go_enter Tryz.func75, Tryz.ntmps75
    go_wp2
    go_ret
    exact ⟨rfl, rfl⟩
  · go_enter Tryz.func75, Tryz.ntmps75
    go_wp2
    go_ret
    exact ⟨rfl, rfl⟩

theorem rowOf_size (std : Bool) : (rowOf std).size = 64 := by cases std <;> rfl

end Go.Proofs.YtdhfjhdlimmjhaaGreatDoor.B64
namespace Go.Proofs.YtdhfjhdlimmjhaaGreatDoor.B64
open Go.RowKit
set_option maxRecDepth 100000

def bitS (row : ByteArray) (s : List UInt8) (t : Nat) : Nat := nx row (s.getD (t / 6) 0) / 2 ^ (5 - t % 6) % 2
def bitB (b : List UInt8) (t : Nat) : Nat := (b.getD (t / 8) 0).toNat / 2 ^ (7 - t % 8) % 2

theorem bitB_shift (x y z : UInt8) (r : List UInt8) (t : Nat) : bitB (x :: y :: z :: r) (t + 24) = bitB r t := by
  unfold bitB
  rw [show (t + 24) / 8 = t / 8 + 3 by omega, show (t + 24) % 8 = t % 8 by omega]
  rfl

def BitsOf (row : ByteArray) (s : List UInt8) (o : Option (List UInt8)) : Prop :=
  match o with
  | some b => b.length = s.length * 6 / 8 ∧ (∀ t, t < 8 * b.length → bitB b t = bitS row s t) ∧ ∀ t, 8 * b.length ≤ t → t < 6 * s.length → bitS row s t = 0
  | none => ∃ t, 8 * (s.length * 6 / 8) ≤ t ∧ t < 6 * s.length ∧ bitS row s t = 1

end Go.Proofs.YtdhfjhdlimmjhaaGreatDoor.B64
namespace Go.Proofs.YtdhfjhdlimmjhaaGreatDoor.B64
open Go.RowKit
set_option maxRecDepth 100000

theorem Rd.ofOwn {w : World} {base g cap : Nat} {l : List UInt8} (h : w.ownsRow base 5 1 (.slice (some ⟨g, 0, none⟩) l.length cap) l.length (l.map B)) : Rd w (some ⟨g, 0, none⟩) l ∧ l.length ≤ cap := by
  refine ⟨.inr ⟨g, 0, rfl, (h.lt g rfl).2, fun j hj => ?_⟩, ?_⟩
  · rw [Nat.zero_add, h.cellAt j (by omega)]
    simp [hj]
  · rcases h.2 with ⟨h0, _⟩ | ⟨g', cap', cur, e, _, _, hn, _⟩
    · cases h0
    · cases e; exact hn

theorem Rd.drewN {w : World} {ao : Option Addr} {l : List UInt8} (h : Rd w ao l) (q : Nat) : Rd (w.drewN q) ao l := h

theorem Ans.rd {w : World} {B0 : Nat} {v : Value} {bs : List UInt8} (h : Ans w B0 v (some bs)) : ∃ g cap, v = .slice (some ⟨g, 0, none⟩) bs.length cap ∧ B0 ≤ g ∧ bs.length ≤ cap ∧ Rd w (some ⟨g, 0, none⟩) bs := by
  obtain ⟨g, cap, hg, rfl, hown⟩ := h
  have := Rd.ofOwn hown
  exact ⟨g, cap, rfl, hg, this.2, this.1⟩

end Go.Proofs.YtdhfjhdlimmjhaaGreatDoor.B64
namespace Go.Proofs.YtdhfjhdlimmjhaaGreatDoor.B64
open Go.RowKit
set_option maxRecDepth 100000

end Go.Proofs.YtdhfjhdlimmjhaaGreatDoor.B64
namespace Go.Proofs.YtdhfjhdlimmjhaaGreatDoor.B64
open Go.RowKit
set_option maxRecDepth 100000

def dig6 (l : List UInt8) (i : Nat) : Nat → Nat
  | 0 => 0
  | j + 1 => 2 * dig6 l i j + bitB l (i + j)

theorem bitB_01 (l : List UInt8) (t : Nat) : bitB l t < 2 := Nat.mod_lt _ (by decide)

theorem dig6_lt (l : List UInt8) (i : Nat) : ∀ j, dig6 l i j < 2 ^ j
  | 0 => by simp [dig6]
  | j + 1 => by
    have h1 := dig6_lt l i j
    have h2 := bitB_01 l (i + j)
    rw [dig6, Nat.pow_succ]
    omega

theorem dig6_six (l : List UInt8) (i : Nat) : dig6 l i 6 = 32 * bitB l i + 16 * bitB l (i + 1) + 8 * bitB l (i + 2) + 4 * bitB l (i + 3) + 2 * bitB l (i + 4) + bitB l (i + 5) := by
  simp only [dig6, Nat.add_zero]
  omega

theorem dig6_shift (x y z : UInt8) (r : List UInt8) (i : Nat) : dig6 (x :: y :: z :: r) (i + 24) 6 = dig6 r i 6 := by
  rw [dig6_six, dig6_six]
  rw [show i + 24 + 1 = i + 1 + 24 by omega, show i + 24 + 2 = i + 2 + 24 by omega, show i + 24 + 3 = i + 3 + 24 by omega, show i + 24 + 4 = i + 4 + 24 by omega, show i + 24 + 5 = i + 5 + 24 by omega]
  simp only [bitB_shift]

theorem dg3 (x y z : UInt8) (r : List UInt8) : dig6 (x :: y :: z :: r) 0 6 = x.toNat / 4 ∧ dig6 (x :: y :: z :: r) 6 6 = x.toNat % 4 * 16 + y.toNat / 16 ∧ dig6 (x :: y :: z :: r) 12 6 = y.toNat % 16 * 4 + z.toNat / 64 ∧ dig6 (x :: y :: z :: r) 18 6 = z.toNat % 64 := by
  have hx := x.toNat_lt; have hy := y.toNat_lt; have hz := z.toNat_lt
  simp only [dig6_six, bitB, Nat.zero_add, Nat.reduceAdd, Nat.reduceDiv, Nat.reduceMod, Nat.reduceSub, Nat.reducePow, List.getD_cons_zero, List.getD_cons_succ]
  omega

theorem dg2 (x y : UInt8) : dig6 [x, y] 0 6 = x.toNat / 4 ∧ dig6 [x, y] 6 6 = x.toNat % 4 * 16 + y.toNat / 16 ∧ dig6 [x, y] 12 6 = y.toNat % 16 * 4 := by
  have hx := x.toNat_lt; have hy := y.toNat_lt
  simp only [dig6_six, bitB, Nat.zero_add, Nat.reduceAdd, Nat.reduceDiv, Nat.reduceMod, Nat.reduceSub, Nat.reducePow, List.getD_cons_zero, List.getD_cons_succ, List.getD_nil, UInt8.toNat_zero]
  omega

theorem dg1 (x : UInt8) : dig6 [x] 0 6 = x.toNat / 4 ∧ dig6 [x] 6 6 = x.toNat % 4 * 16 := by
  have hx := x.toNat_lt
  simp only [dig6_six, bitB, Nat.zero_add, Nat.reduceAdd, Nat.reduceDiv, Nat.reduceMod, Nat.reduceSub, Nat.reducePow, List.getD_cons_zero, List.getD_cons_succ, List.getD_nil, UInt8.toNat_zero]
  omega

theorem dgs3 (x y z : UInt8) (r : List UInt8) : dgs (x :: y :: z :: r) = [x.toNat / 4, x.toNat % 4 * 16 + y.toNat / 16, y.toNat % 16 * 4 + z.toNat / 64, z.toNat % 64] ++ dgs r := by
  have hx := x.toNat_lt; have hy := y.toNat_lt; have hz := z.toNat_lt
  simp [dgs, List.range_succ, dg]
  omega
theorem dgs2 (x y : UInt8) : dgs [x, y] = [x.toNat / 4, x.toNat % 4 * 16 + y.toNat / 16, y.toNat % 16 * 4] := by
  have hx := x.toNat_lt; have hy := y.toNat_lt
  simp [dgs, List.range_succ, dg]
  omega
theorem dgs1 (x : UInt8) : dgs [x] = [x.toNat / 4, x.toNat % 4 * 16] := by
  have hx := x.toNat_lt
  simp [dgs, List.range_succ, dg]
  omega

theorem dgs_bits : ∀ (n : Nat) (l : List UInt8), l.length ≤ n → dgs l = (List.range ((4 * l.length + 2) / 3)).map fun m => dig6 l (6 * m) 6
  | n, [], _ => by simp [dgs]
  | n, [x], _ => by
    obtain ⟨h1, h2⟩ := dg1 x
    rw [dgs1]
    simp [List.range_succ, h1, h2]
  | n, [x, y], _ => by
    obtain ⟨h1, h2, h3⟩ := dg2 x y
    rw [dgs2]
    simp [List.range_succ, h1, h2, h3]
  | n + 1, x :: y :: z :: r, hn => by
    obtain ⟨h1, h2, h3, h4⟩ := dg3 x y z r
    simp only [List.length_cons] at hn
    rw [dgs3, dgs_bits n r (by omega)]
    simp only [List.length_cons]
    rw [show (4 * (r.length + 1 + 1 + 1) + 2) / 3 = 4 + (4 * r.length + 2) / 3 by omega, List.range_add, List.map_append, List.map_map]
    congr 1
    · simp [List.range_succ, h1, h2, h3, h4]
    · apply List.map_congr_left
      intro m _
      show _ = dig6 (x :: y :: z :: r) (6 * (4 + m)) 6
      rw [show 6 * (4 + m) = 6 * m + 24 by omega, dig6_shift]

theorem shrBit (n k : Nat) (hn : n < 256) : bits .and .i64 (wrap64 ((n : Int) / 2 ^ k)) 1 = ((n / 2 ^ k % 2 : Nat) : Int) := by
  have hk : ∀ m : Int, 0 ≤ m → m < 2 ^ 16 → IntKind.i64.wrap m = m := fun m h0 h1 => by rw [IntKind.wrap_i64]; omega
  have e : ((n : Int) / 2 ^ k) = ((n / 2 ^ k : Nat) : Int) := by simp
  have hle : n / 2 ^ k ≤ n := Nat.div_le_self _ _
  rw [e]
  generalize n / 2 ^ k = m at hle
  have e2 : wrap64 (m : Int) = m := by unfold wrap64; omega
  rw [e2]
  have := bits_mask .i64 16 (by decide) hk 1 (by decide) (m : Int) (by omega) (by omega)
  simpa using this

set_option maxHeartbeats 1000000 in
theorem bit_any (ao : Option Addr) (c : Nat) (l : List UInt8) (i : Nat) (I : Int) (w : World) (hI : I = (i : Int)) (hrd : Rd w ao l) (hi : i ≤ 2000000000000000) (hl : l.length ≤ 140737488355328) :
    Calls Tryz.prog 76 #[.slice ao l.length c, .int .i64 I] w fun e w' => e = .returned (.int .i64 (bitB l i)) ∧ w' = w := by
  subst hI
  by_cases h : i / 8 < l.length
  · rcases hrd with h0 | ⟨b, off, rfl, hb, hc⟩
    · subst h0; simp at h
    obtain ⟨x, hx⟩ : ∃ x, l.getD (i / 8) 0 = x := ⟨_, rfl⟩
    have hcell := hc (i / 8) h
    rw [hx] at hcell
    unfold B at hcell
    obtain ⟨k, hk⟩ : ∃ k, k = 7 - i % 8 := ⟨_, rfl⟩
    have hkI : (7 - (i : Int) % 8) = (k : Int) := by omega
    have hk7 : k ≤ 7 := by omega
    have hxl := x.toNat_lt
    have hv := shrBit x.toNat k hxl
    have Hr : Hid (bitB l i = x.toNat / 2 ^ k % 2) := by show bitB l i = _; unfold bitB; rw [hx, hk]
    clear hc hx hk
    go_enter Tryz.func76, Tryz.ntmps76
    go_wp2
    go_ret
    rw [Hr.out]
    exact ⟨rfl, rfl⟩
  · have Hr : Hid (bitB l i = 0) := by
      show bitB l i = 0
      unfold bitB
      rw [List.getD_eq_getElem?_getD, List.getElem?_eq_none (by omega)]
      simp
    clear hrd
    go_enter Tryz.func76, Tryz.ntmps76
    go_wp2
    go_ret
    rw [Hr.out]
    exact ⟨rfl, rfl⟩

theorem conv_any (w : World) (base n : Nat) (v : Value) (l : List UInt8) (h : w.ownsRow base 5 1 v n (l.map B)) :
    (convert 81 9 v).run Tryz.prog w = .ok (.string ⟨l.toArray⟩) w := by
  have hl : l.length = n := by have := h.1; simpa using this
  rcases h.2 with ⟨rfl, rfl⟩ | ⟨g, cap, cur, rfl, _⟩
  · obtain rfl := List.eq_nil_of_length_eq_zero hl
    exact run_convert_bytes_nil w 81 5 Tryz.underlying81 Tryz.underlying5 0 0 9 Tryz.underlying9
  · subst hl
    exact conv_own w g cap base l h

set_option maxHeartbeats 4000000 in
theorem refspell_any (std : Bool) (ao : Option Addr) (c : Nat) (l : List UInt8) (w : World) (hrd : Rd w ao l) (hl : l.length ≤ 140737488355328) :
    Calls Tryz.prog 63 #[.slice ao l.length c, .bool std] w fun e w' => e = .returned (.string ⟨(enc (rowOf std) l).toArray⟩) ∧ Below w.heap.size w w' := by
  obtain ⟨i0, hi, hz0, hz1, hz2⟩ := info_parts infoB
  have HD : Hid (dgs l = (List.range ((4 * l.length + 2) / 3)).map fun m => dig6 l (6 * m) 6) := dgs_bits l.length l (Nat.le_refl _)
  have HE : Hid (enc (rowOf std) l = (dgs l).map (at6 (rowOf std))) := enc_map (rowOf std) l
  have HR : Hid (Rd w ao l) := hrd
  have hsz := rowOf_size std
  clear hrd
  go_enter Tryz.func63, Tryz.ntmps63
  go_wp2_with fail
  refine (signs_any std w).mono ?_
  rintro e w' ⟨rfl, rfl⟩
  generalize hrow : rowOf std = row at *
  have Hrow : Hid (rowOf std = row) := hrow
  clear hrow
  go_wp2
  go_loopw [6, 7] (fun v s wr => ∃ m p : Nat, m ≤ (4 * l.length + 2) / 3 ∧ Hid (p = 6 * m) ∧ p ≤ 1125899906842640 ∧ s = .int .i64 p ∧ wr.ownsRow w'.heap.size 5 1 v m (((List.range m).map fun k => at6 row (dig6 l (6 * k) 6)).map B) ∧ Below w'.heap.size w' wr) (fun _ s _ => 6 * ((4 * l.length + 2) / 3) - (intOf s).toNat)
  case atStart => exact ⟨0, 0, Nat.zero_le _, rfl, by omega, rfl, World.ownsRow_nil _ _ _ _, Below.refl _ _⟩
  case round =>
    obtain ⟨m, p, hm, Hp, hpb, rfl, hown, hbl⟩ := hrel
    by_cases hlt : p < 8 * l.length
    · have hltB : decide ((p : Int) < 8 * (l.length : Int)) = true := by simp; omega
      have hR2 : Hid (Rd wr ao l) := HR.out.below hbl (Nat.le_refl _)
      go_wp2
      go_loop [8, 9] (fun sn sk => ∃ j : Nat, j ≤ 6 ∧ sk = .int .i64 j ∧ sn = .int .i64 (dig6 l p j : Nat)) (fun _ sk => 6 - (intOf sk).toNat)
      case atStart => exact ⟨0, by omega, rfl, rfl⟩
      case round =>
        obtain ⟨j, hj, rfl, rfl⟩ := hrel
        have hdl := dig6_lt l p j
        have hpow : (2 : Nat) ^ j ≤ 2 ^ 6 := Nat.pow_le_pow_right (by decide) hj
        by_cases hj6 : j < 6
        · have Hd : Hid (dig6 l p (j + 1) = 2 * dig6 l p j + bitB l (p + j)) := rfl
          have hbb := bitB_01 l (p + j)
          have hd64 : dig6 l p j < 64 := by omega
          clear hdl hpow
          go_wp2_with fail
          refine (bit_any ao c l (p + j) _ wr (by omega) hR2.out (by omega) hl).mono ?_
          rintro e wq ⟨rfl, rfl⟩
          go_wp2
          go_round
          case rel => exact ⟨j + 1, by omega, by go_num, congrArg (Value.int .i64) (by rw [Hd.out]; omega)⟩
          case measure => simp [intOf]; omega
        · obtain rfl : j = 6 := by omega
          have hq : dig6 l p 6 < 64 := hdl
          have Hs : Hid (((List.range (m + 1)).map fun k => at6 row (dig6 l (6 * k) 6)) = ((List.range m).map fun k => at6 row (dig6 l (6 * k) 6)) ++ [at6 row (dig6 l p 6)]) := by
            show _ = _
            rw [List.range_succ, List.map_append, Hp.out]
            rfl
          generalize dig6 l p 6 = q at hq Hs ⊢
          have gx : row[q]'(by omega) = at6 row q := at6_get row q (by omega)
          clear hdl hpow hR2
          go_wp2_with (at_builtin; refine wpList_append_own_wide _ rfl (.tmp 31) (.tmp 35) 81 rfl w'.heap.size 5 i0 (.int .u8 0) 1 1 Tryz.underlying81 hi hz0 hz1 hz2 rfl (by decide) _ m _ rfl (hown.alloc _) ⟨wr.heap.size, 0, none⟩ 1 1 [.int .u8 (at6 row q).toNat] rfl rfl (by intro t u ht; match t, ht with | 0, ht => simp at ht; subst ht; simp [Addr.add]) (by intro u hu; simp at hu; subst hu; rfl) (by unfold maxLen; omega) (by omega) (by have := hbl.size; simp; omega) ?_; intro v1 w1 hown1 hgrow1 _)
          have hp := Hp.out
          refine ⟨⟨m + 1, p + 6, by omega, by show p + 6 = 6 * (m + 1); omega, by omega, by go_num, ?_, (hbl.alloc hbl.size _).grown hgrow1 (by have := hbl.size; simp; omega) (fun k hk => (hown.lt k hk).1)⟩, by simp [intOf]; omega⟩
          rw [Hs.out, List.map_append]
          exact hown1
    · have Hm : Hid (((List.range m).map fun k => at6 row (dig6 l (6 * k) 6)) = enc row l) := by
        have hp := Hp.out
        have hmm : m = (4 * l.length + 2) / 3 := by omega
        show _ = enc row l
        rw [HE.out, HD.out, hmm, List.map_map]
        rfl
      rw [Hm.out] at hown
      have hcv := conv_any wr _ m _ (enc row l) hown
      have hltB : decide ((p : Int) < 8 * (l.length : Int)) = false := by simp; omega
      clear hown
      go_wp2
      go_ret
      rw [Hrow.out]
      exact ⟨rfl, hbl⟩

set_option maxHeartbeats 400000 in
theorem refencode_any (ao : Option Addr) (c : Nat) (l : List UInt8) (w : World) (hrd : Rd w ao l) (hl : l.length ≤ 140737488355328) :
    Calls Tryz.prog 47 #[.slice ao l.length c] w fun e w' => e = .returned (.string ⟨(enc urlRow l).toArray⟩) ∧ Below w.heap.size w w' := by
  go_enter Tryz.func47, Tryz.ntmps47
  go_wp2_with fail
  refine (refspell_any false ao c l w hrd hl).mono ?_
  rintro e w1 ⟨rfl, hb⟩
  go_wp2
  go_ret
  exact ⟨rfl, hb⟩

def strN : Value → Nat
  | .string s => s.data.size
  | _ => 0

end Go.Proofs.YtdhfjhdlimmjhaaGreatDoor.B64