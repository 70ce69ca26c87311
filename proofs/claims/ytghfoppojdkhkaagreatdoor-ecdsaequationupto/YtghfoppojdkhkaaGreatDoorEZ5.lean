import Derived.Test.YtghfoppojdkhkaaGreatDoorNtZ2
import Derived.Test.YtghfoppojdkhkaaGreatDoorNtZ6
import Derived.Test.YtghfoppojdkhkaaGreatDoorEZ4
import Derived.Laws.AppendOwnNone
import Derived.Deep.DeepAppendWide
import Derived.Lib.SlBytesConst
namespace Go.Proofs.YtghfoppojdkhkaaGreatDoor
open Go.RowKit

theorem tobe_succ (n V : Nat) : tobe (n + 1) V = tobe n (V / 256) ++ [UInt8.ofNat (V % 256)] := by
  unfold tobe
  rw [List.range_succ, List.map_append]
  congr 1
  · apply List.map_congr_left
    intro i hi
    have hi2 := List.mem_range.1 hi
    congr 2
    rw [Nat.div_div_eq_div_mul, ← Nat.pow_succ', show n + 1 - 1 - i = (n - 1 - i).succ by omega]
  · simp
theorem bv_tobe (n V : Nat) : bv (tobe n V) = V % 256 ^ n := by
  induction n generalizing V with
  | zero => simp [tobe, bv, Nat.mod_one]
  | succ n ih =>
    rw [tobe_succ, bv_snoc, ih, UInt8.toNat_ofNat', Nat.mod_eq_of_lt (show V % 256 < 2 ^ 8 from Nat.mod_lt _ (by decide)), Nat.pow_succ, Nat.mul_comm (256 ^ n), Nat.mod_mul]
    omega
end Go.Proofs.YtghfoppojdkhkaaGreatDoor

namespace Go.Proofs.YtghfoppojdkhkaaGreatDoor
open Go.RowKit

set_option maxRecDepth 100000

/-- append of bytes that can be read, nil ones too, behind a row of one's own. -/
theorem append_rdE {w : World} {ops : Array Oper} {rest : List Oper} {o : Oper} {a : Act} {Q : Exit → Act → World → Prop} (hgd : o.guard = none) (s x : Operand)
    (ho : o.op = .call { callee := .builtin .append, args := #[s, x], argTypes := #[24, 24] })
    (base : Nat) (i : TypeInfo) (hi : Tryz.prog.info? 5 = some i) (hz : i.zero = some (.int .u8 0)) (hsize : i.size = 1) (hby : i.bytes = 1)
    (v : Value) (n : Nat) (xs : List UInt8) (hs : a.eval s = v) (hown : w.ownsRow base 5 1 v n (xs.map B))
    (ao : Option Addr) (m c : Nat) (l : List UInt8) (hx : a.eval x = .slice ao m c) (hl : l.length = m) (hao : ao = none → m = 0 ∧ c = 0) (hrd : Rd w ao l)
    (hbytes : n + m ≤ 100000000000) (hbase : base ≤ w.heap.size)
    (h : ∀ v' w', w'.ownsRow base 5 1 v' (n + m) ((xs ++ l).map B) → w.grownBy w' v.ownBlock → wpList Tryz.prog ops Q rest (a.put o.dst v') w') : wpList Tryz.prog ops Q (o :: rest) a w := by
  cases ao with
  | none =>
    obtain ⟨rfl, rfl⟩ := hao rfl
    obtain rfl := List.eq_nil_of_length_eq_zero hl
    refine wpList_append_own_none hgd s x 24 ho base 5 i 1 Tryz.underlying24 hi v n (xs.map B) hs hown hx ?_
    exact h v w (by simpa using hown) (World.grownBy.refl _ _)
  | some ad =>
    refine wpList_append_own_wide w hgd s x 24 ho base 5 i (.int .u8 0) 1 1 Tryz.underlying24 hi hz hsize hby rfl (by decide) v n (xs.map B) hs hown ad m c (l.map B) hx (by simpa using hl) ?_ (oneB l) (by unfold maxLen; omega) (by omega) hbase ?_
    · intro j u hu
      rcases hrd with h0 | ⟨b, off, e, hb, hc⟩
      · subst h0; simp at hu
      · cases e
        have hj : j < l.length := by
          have := (List.getElem?_eq_some_iff.1 hu).1
          simpa using this
        rw [Addr.add_lit, hc j hj]
        simp [List.getElem?_map, List.getElem?_eq_getElem hj] at hu
        rw [← hu, List.getD_eq_getElem?_getD, List.getElem?_eq_getElem hj, Option.getD_some]
    · intro v' w' h1 h2 _
      exact h v' w' (by rw [List.map_append]; exact h1) h2

/-- A slice over a row of one's own: it can be read. -/
theorem own_rdE {w : World} {base n : Nat} {v : Value} {l : List UInt8} (h : w.ownsRow base 5 1 v n (l.map B)) : ∃ ao cap, v = .slice ao n cap ∧ n = l.length ∧ n ≤ cap ∧ cap ≤ maxLen ∧ (ao = none → n = 0 ∧ cap = 0) ∧ Rd w ao l ∧ (∀ x, ao = some x → base ≤ x.block) := by
  have hl : l.length = n := by have := h.1; simpa using this
  rcases h.2 with ⟨rfl, rfl⟩ | ⟨g, cap, cur, rfl, hg, hh, hn, hc, hs, ht⟩
  · exact ⟨none, 0, rfl, hl.symm, Nat.le_refl _, Nat.zero_le _, fun _ => ⟨rfl, rfl⟩, .inl (List.eq_nil_of_length_eq_zero hl), fun _ e => by cases e⟩
  · refine ⟨_, cap, rfl, hl.symm, hn, hc, (fun e => by cases e), .inr ⟨g, 0, rfl, (h.lt g rfl).2, fun j hj => ?_⟩, fun x e => by cases e; exact hg⟩
    rw [Nat.zero_add, h.cellAt j (by omega)]
    simp [hj]

theorem info_u8 : ∃ i, Tryz.prog.info? 5 = some i ∧ i.zero = some (.int .u8 0) ∧ i.size = 1 ∧ i.bytes = 1 := by
  have hI := infoB
  cases h : Tryz.prog.info? 5 with
  | none => rw [h] at hI; cases hI
  | some i =>
    rw [h] at hI
    simp only [Option.map_some, Option.some.injEq, Prod.mk.injEq] at hI
    exact ⟨i, rfl, hI.1, hI.2.1, hI.2.2⟩
set_option maxHeartbeats 8000000 in
theorem joined_v (r t : Value) (R S : Nat) (s : Int) (w : World) (hr : Nu w r R) (ht : Nu w t S) (h1 : (lst R : Int) ≤ s ∧ s ≤ 16384) (h2 : (lst S : Int) ≤ s ∧ s ≤ 16384) :
    Calls Tryz.prog 15 #[r, t, .int .i64 s] w fun e w' => ∃ v, e = .returned (.tuple #[v, .bool true]) ∧ Owb w' w.heap.size v (tobe s.toNat R ++ tobe s.toNat S) ∧ Below w.heap.size w w' := by
  obtain ⟨i, hi, hz, hsize, hby⟩ := info_u8
  obtain ⟨r0, r1, r2, rfl⟩ := hr.shape
  obtain ⟨t0, t1, t2, rfl⟩ := ht.shape
  have HN : Hid (Nu w (.slice t0 t1 t2) S) := ht
  have C1 := fixed_v _ R s w hr h1
  have hL1 : (tobe s.toNat R).length ≤ 16384 := by rw [tobe_length]; omega
  have hL2 : (tobe s.toNat S).length ≤ 16384 := by rw [tobe_length]; omega
  clear hr ht h1
  go_enter Tryz.func15, Tryz.ntmps15
  go_wp2_with fail
  refine C1.mono ?_
  clear C1
  rintro e w1 ⟨a, rfl, hO, hB⟩
  obtain ⟨ao, ac, rfl, _, _, _, hao, hra, _⟩ := own_rdE hO
  have HB1 : Hid (Below w.heap.size w w1) := hB
  have HA1 : Hid (Rd w1 ao (tobe s.toNat R)) := hra
  have Hao : Hid (ao = none → (tobe s.toNat R).length = 0 ∧ ac = 0) := hao
  clear hO hB hra hao
  go_wp2_with fail
  refine (fixed_v _ S s w1 (HN.out.below HB1.out (Nat.le_refl _)) h2).mono ?_
  rintro e w2 ⟨d, rfl, hO, hB⟩
  obtain ⟨bo, bc, rfl, _, _, _, hbo, hrb, _⟩ := own_rdE hO
  have HB2 : Hid (Below w.heap.size w w2) := HB1.out.trans (hB.mono HB1.out.size)
  have HA2 : Hid (Rd w2 ao (tobe s.toNat R) ∧ Rd w2 bo (tobe s.toNat S)) := ⟨HA1.out.below hB (Nat.le_refl _), hrb⟩
  have Hbo : Hid (bo = none → (tobe s.toNat S).length = 0 ∧ bc = 0) := hbo
  clear hO hB hrb hbo HA1 h2
  generalize hla : tobe s.toNat R = la at *
  generalize hlb : tobe s.toNat S = lb at *
  have Hla : Hid (tobe s.toNat R = la) := hla
  have Hlb : Hid (tobe s.toNat S = lb) := hlb
  clear hla hlb
  go_wp2_with (at_builtin; refine append_rdE rfl (.tmp 25) (.tmp 26) rfl w.heap.size i hi hz hsize hby (.slice none 0 0) 0 [] rfl (Owb.nil w2 w.heap.size) ao la.length ac la rfl rfl Hao.out HA2.out.1 (by omega) HB2.out.size ?_)
  intro v1 w3 ho3 hg3
  have hB3 : Below w2.heap.size w2 w3 := (Below.refl _ _).grown hg3 (Nat.le_refl _) (fun k hk => by cases hk)
  have HB3 : Hid (Below w.heap.size w w3) := HB2.out.trans (hB3.mono HB2.out.size)
  have HA3 : Hid (Rd w3 bo lb) := HA2.out.2.below hB3 (Nat.le_refl _)
  have HO3 : Hid (Owb w3 w.heap.size v1 la) := ho3
  clear hB3 hg3 ho3 HA2
  go_wp2_with (at_builtin; refine append_rdE rfl (.tmp 28) (.tmp 29) rfl w.heap.size i hi hz hsize hby v1 la.length la rfl HO3.out bo lb.length bc lb rfl rfl Hbo.out HA3.out (by omega) HB3.out.size ?_)
  intro v2 w4 ho4 hg4
  rw [← List.map_append] at ho4
  have HX : Hid (Owb w4 w.heap.size v2 (la ++ lb) ∧ Below w.heap.size w w4) := ⟨by unfold Owb; rw [List.length_append]; exact ho4, HB3.out.grown hg4 HB3.out.size (fun k hk => (HO3.out.lt k hk).1)⟩
  obtain ⟨vo, vc, rfl, _⟩ := own_rdE ho4
  clear ho4 hg4
  go_wp2
  go_ret2
  exact ⟨_, rfl, by rw [Hla.out, Hlb.out]; exact HX.out.1, HX.out.2⟩
end Go.Proofs.YtghfoppojdkhkaaGreatDoor
