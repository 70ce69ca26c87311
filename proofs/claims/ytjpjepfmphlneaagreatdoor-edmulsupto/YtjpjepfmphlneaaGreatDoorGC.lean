import Derived.Test.YtjpjepfmphlneaaGreatDoorDL
import Derived.Laws.AppendOwnNone
import Derived.Deep.DeepAppendWide
import Derived.Lib.SlBytesConst
import Derived.RegionTactic
import Derived.ChangeAlike
import Derived.Test.YtjpjepfmphlneaaGreatDoorCuCDg
import Derived.Test.YtjpjepfmphlneaaGreatDoorGA
namespace Go.Proofs.YtjpjepfmphlneaaGreatDoor
open Go.RowKit

set_option maxRecDepth 100000

/-- append of bytes that can be read, nil ones too, behind a row of one's own. -/
theorem append_rdE {w : World} {ops : Array Oper} {rest : List Oper} {o : Oper} {a : Act} {Q : Exit → Act → World → Prop} (hgd : o.guard = none) (s x : Operand)
    (ho : o.op = .call { callee := .builtin .append, args := #[s, x], argTypes := #[22, 22] })
    (base : Nat) (i : TypeInfo) (hi : Tryz.prog.info? 5 = some i) (hz : i.zero = some (.int .u8 0)) (hsize : i.size = 1) (hby : i.bytes = 1)
    (v : Value) (n : Nat) (xs : List UInt8) (hs : a.eval s = v) (hown : w.ownsRow base 5 1 v n (xs.map B))
    (ao : Option Addr) (m c : Nat) (l : List UInt8) (hx : a.eval x = .slice ao m c) (hl : l.length = m) (hao : ao = none → m = 0 ∧ c = 0) (hrd : Rd w ao l)
    (hbytes : n + m ≤ 100000000000) (hbase : base ≤ w.heap.size)
    (h : ∀ v' w', w'.ownsRow base 5 1 v' (n + m) ((xs ++ l).map B) → w.grownBy w' v.ownBlock → wpList Tryz.prog ops Q rest (a.put o.dst v') w') : wpList Tryz.prog ops Q (o :: rest) a w := by
  cases ao with
  | none =>
    obtain ⟨rfl, rfl⟩ := hao rfl
    obtain rfl := List.eq_nil_of_length_eq_zero hl
    refine wpList_append_own_none hgd s x 22 ho base 5 i 1 Tryz.underlying22 hi v n (xs.map B) hs hown hx ?_
    exact h v w (by simpa using hown) (World.grownBy.refl _ _)
  | some ad =>
    refine wpList_append_own_wide w hgd s x 22 ho base 5 i (.int .u8 0) 1 1 Tryz.underlying22 hi hz hsize hby rfl (by decide) v n (xs.map B) hs hown ad m c (l.map B) hx (by simpa using hl) ?_ (oneB l) (by unfold maxLen; omega) (by omega) hbase ?_
    · intro j u hu
      rcases hrd with h0 | ⟨b, off, e, hb, hc⟩
      · subst h0; simp at hu
      · cases e
        have hj : j < l.length := by
          have := (List.getElem?_eq_some_iff.1 hu).1
          simpa using this
        rw [Addr.add_lit, hc j hj]
        simp [List.getElem?_map, List.getElem?_eq_getElem hj] at hu
        rw [← hu, List.getD_eq_getElem?_getD, List.getElem?_eq_getElem hj, Option.getD_some]
    · intro v' w' h1 h2 _
      exact h v' w' (by rw [List.map_append]; exact h1) h2

/-- A slice over a row of one's own: it can be read. -/
theorem own_rdE {w : World} {base n : Nat} {v : Value} {l : List UInt8} (h : w.ownsRow base 5 1 v n (l.map B)) : ∃ ao cap, v = .slice ao n cap ∧ n = l.length ∧ n ≤ cap ∧ cap ≤ maxLen ∧ (ao = none → n = 0 ∧ cap = 0) ∧ Rd w ao l ∧ (∀ x, ao = some x → base ≤ x.block) := by
  have hl : l.length = n := by have := h.1; simpa using this
  rcases h.2 with ⟨rfl, rfl⟩ | ⟨g, cap, cur, rfl, hg, hh, hn, hc, hs, ht⟩
  · exact ⟨none, 0, rfl, hl.symm, Nat.le_refl _, Nat.zero_le _, fun _ => ⟨rfl, rfl⟩, .inl (List.eq_nil_of_length_eq_zero hl), fun _ e => by cases e⟩
  · refine ⟨_, cap, rfl, hl.symm, hn, hc, (fun e => by cases e), .inr ⟨g, 0, rfl, (h.lt g rfl).2, fun j hj => ?_⟩, fun x e => by cases e; exact hg⟩
    rw [Nat.zero_add, h.cellAt j (by omega)]
    simp [hj]

theorem info_u8 : ∃ i, Tryz.prog.info? 5 = some i ∧ i.zero = some (.int .u8 0) ∧ i.size = 1 ∧ i.bytes = 1 := by
  have hI := infoB
  cases h : Tryz.prog.info? 5 with
  | none => rw [h] at hI; cases hI
  | some i =>
    rw [h] at hI
    simp only [Option.map_some, Option.some.injEq, Prod.mk.injEq] at hI
    exact ⟨i, rfl, hI.1, hI.2.1, hI.2.2⟩

/-- slices.Clone of bytes that are some. -/
theorem clone_v (ao : Option Addr) (c : Nat) (l : List UInt8) (w : World) (hr : Rd w ao l) (h0 : 0 < l.length) (hl : l.length ≤ 100000) :
    Calls Tryz.prog 48 #[.slice ao l.length c] w fun e w' => ∃ v, e = .returned v ∧ Owb w' w.heap.size v l ∧ Below w.heap.size w w' := by
  obtain ⟨g, off, rfl⟩ : ∃ g off : Nat, ao = some ⟨g, off, none⟩ := by
    rcases hr with h | ⟨g, off, e, _⟩
    · subst h; simp at h0
    · exact ⟨g, off, e⟩
  obtain ⟨i, hi, hz, hsize, hby⟩ := info_u8
  have q22 : ∀ (w : World) (a : Option Addr) (n c n' c' : Nat), (binOp .eql 22 (.slice a n c) (.slice none n' c')).run Tryz.prog w = .ok (.bool a.isNone) w := fun w a n c n' c' => Lib.run_eql_slice_nil w _ _ a n c n' c' Tryz.underlying22
  have hB0 := alloc_below w (.cells #[] 5)
  have HR : Hid (Rd (w.alloc (.cells #[] 5)) (some ⟨g, off, none⟩) l) := hr.below hB0 (Nat.le_refl _)
  clear hr
  go_enter Tryz.func48, Tryz.ntmps48
  go_wp2_with (at_builtin; refine append_rdE rfl (.tmp 5) (.tmp 6) rfl w.heap.size i hi hz hsize hby _ 0 [] rfl (World.ownsRow_made w #[] 0 (Nat.le_refl _) (Nat.zero_le _) rfl) _ l.length c l rfl rfl (fun e => by cases e) HR.out (by omega) (by rw [World.size_alloc]; omega) ?_)
  intro v w1 ho hg
  have HX : Hid (Owb w1 w.heap.size v l ∧ Below w.heap.size w w1) := ⟨by unfold Owb; simpa using ho, hB0.grown hg hB0.size (fun k hk => by cases hk; exact Nat.le_refl _)⟩
  obtain ⟨vo, vc, rfl, _⟩ := own_rdE ho
  clear ho hg q22
  go_wp2
  go_ret
  exact ⟨_, rfl, HX.out⟩
/-- Which cell has come to place k behind i exchanges. -/
def rvf (n i k : Nat) : Nat := if k < n ∧ (k < i ∨ n - i ≤ k) then n - 1 - k else k
theorem rvf_step {n i j k : Nat} (h : i < j) (hj : j = n - 1 - i) (hn : i < n) (h1 : k ≠ i) (h2 : k ≠ j) : rvf n (i + 1) k = rvf n i k := by
  unfold rvf
  split <;> split <;> omega
/-- Behind i exchanges. -/
def Rv (cs cl : List Value) (n i : Nat) : Prop := cl.length = cs.length ∧ ∀ k, k < cs.length → cl[k]? = cs[rvf n i k]?
theorem Rv.start (cs : List Value) (n : Nat) : Rv cs cs n 0 := ⟨rfl, fun k _ => by
  unfold rvf
  split
  · rename_i h
    exact absurd h (by omega)
  · rfl⟩
theorem Rv.step {cs cl : List Value} {n i j : Nat} {a b : Value} (h : Rv cs cl n i) (hij : i < j) (hj : j = n - 1 - i) (hi : i < n) (hn : n ≤ cs.length) (ha : cl[i]? = some a) (hb : cl[j]? = some b) : Rv cs ((cl.set i b).set j a) n (i + 1) := by
  refine ⟨by simp [h.1], fun k hk => ?_⟩
  by_cases h2 : k = j
  · subst h2
    rw [List.getElem?_set_self (by simp [h.1]; omega), ← ha, h.2 i (by omega)]
    congr 1
    unfold rvf
    split <;> split <;> omega
  · rw [List.getElem?_set_ne (fun e => h2 e.symm)]
    by_cases h1 : k = i
    · subst h1
      rw [List.getElem?_set_self (by rw [h.1]; omega), ← hb, h.2 j (by omega)]
      congr 1
      unfold rvf
      split <;> split <;> omega
    · rw [List.getElem?_set_ne (fun e => h1 e.symm), h.2 k hk, rvf_step hij hj hi h1 h2]
theorem Rv.end {cs cl : List Value} {n i : Nat} {l : List UInt8} (h : Rv cs cl n i) (hn : n ≤ cs.length) (hl : cs.take n = l.map B) (hi : n - 1 - i ≤ i) (hin : i ≤ n) : cl.take n = l.reverse.map B := by
  have hll : l.length = n := by have := congrArg List.length hl; simp at this; omega
  apply List.ext_getElem?
  intro k
  by_cases hk : k < n
  · rw [List.getElem?_take_of_lt hk, h.2 k (by omega), List.getElem?_map, List.getElem?_reverse (by omega), ← List.getElem?_map, ← hl, List.getElem?_take_of_lt (by omega)]
    congr 1
    unfold rvf
    split <;> omega
  · rw [List.getElem?_eq_none (by simp; omega), List.getElem?_eq_none (by simp; omega)]
theorem Rv.at {cs cl : List Value} {n i k : Nat} {l : List UInt8} (h : Rv cs cl n i) (hn : n ≤ cs.length) (hl : cs.take n = l.map B) (hk : k < n) : ∃ c, cl[k]? = some (B c) := by
  have hll : l.length = n := by have := congrArg List.length hl; simp at this; omega
  have hr : rvf n i k < n := by unfold rvf; split <;> omega
  refine ⟨l[rvf n i k]'(by omega), ?_⟩
  rw [h.2 k (by omega), ← List.getElem?_take_of_lt hr, hl, List.getElem?_map, List.getElem?_eq_getElem (by omega)]
  rfl
set_option maxHeartbeats 4000000 in
theorem reverse_v (g n cap : Nat) (cs : List Value) (l : List UInt8) (w : World) (hb : Bl 5 w g cs) (hn : n ≤ cs.length) (hl : cs.take n = l.map B) (hbig : n ≤ 100000) :
    Calls Tryz.prog 63 #[.slice (some ⟨g, 0, none⟩) n cap] w fun e w' => e = .returned (.tuple #[]) ∧ ∃ cs', Bl 5 w' g cs' ∧ cs'.length = cs.length ∧ cs'.take n = l.reverse.map B ∧ But w w' g := by
  have HB : Hid (Bl 5 w g cs ∧ cs.take n = l.map B) := ⟨hb, hl⟩
  clear hb hl
  go_enter Tryz.func63, Tryz.ntmps63
  go_wp2
  go_loopw [2, 3] (fun s2 s3 wr => ∃ (w' : World) (i : Nat) (cl : List Value), w' = wr ∧ s2 = .int .i64 (i : Int) ∧ s3 = .int .i64 ((n : Int) - 1 - (i : Int)) ∧ i ≤ n ∧ Hid (Bl 5 w' g cl ∧ Rv cs cl n i ∧ But w w' g)) (fun s2 _ _ => n - (intOf s2).toNat)
  case atStart => exact ⟨w, 0, cs, rfl, rfl, by simp, Nat.zero_le _, HB.out.1, Rv.start cs n, But.refl _ _⟩
  case round =>
    obtain ⟨w', i, cl, rfl, rfl, rfl, hi, HI⟩ := hrel
    by_cases hlt : (i : Int) < (n : Int) - 1 - (i : Int)
    · obtain ⟨j, hj, hjz⟩ : ∃ j : Nat, j = n - 1 - i ∧ (n : Int) - 1 - (i : Int) = (j : Int) := ⟨n - 1 - i, rfl, by omega⟩
      obtain ⟨a, ha⟩ := HI.out.2.1.at hn HB.out.2 (show i < n by omega)
      obtain ⟨b, hb⟩ := HI.out.2.1.at hn HB.out.2 (show j < n by omega)
      have hli : i < cl.length := (List.getElem?_eq_some_iff.1 ha).1
      have hlj : j < cl.length := (List.getElem?_eq_some_iff.1 hb).1
      have ci : w'.cell? ⟨g, i, none⟩ = some (.int .u8 (a.toNat : Int)) := by rw [HI.out.1.cell i hli, (List.getElem?_eq_some_iff.1 ha).2]; rfl
      have cj : w'.cell? ⟨g, j, none⟩ = some (.int .u8 (b.toNat : Int)) := by rw [HI.out.1.cell j hlj, (List.getElem?_eq_some_iff.1 hb).2]; rfl
      have fi := HI.out.1.frozen i
      have fj := HI.out.1.frozen j
      have HS : Hid (Rv cs ((cl.set i (.int .u8 (b.toNat : Int))).set j (.int .u8 (a.toNat : Int))) n (i + 1)) := HI.out.2.1.step (by omega) hj (by omega) hn ha hb
      have Hj : Hid (j = n - 1 - i) := hj
      have hij : i < j := by omega
      have hjn : j < n := by omega
      rw [hjz] at hlt ⊢
      have hin : i < n := by omega
      generalize (a.toNat : Int) = za at *
      generalize (b.toNat : Int) = zb at *
      clear ha hb hli hlj hj hjz
      go_wp2_with fail
      go_region
      go_wp2
      refine ⟨⟨_, i + 1, _, rfl, by go_num, ?_, by omega, (HI.out.1.set i (.int .u8 zb)).set j (.int .u8 za), HS.out, ((HI.out.2.2.set i (.int .u8 zb)).set j (.int .u8 za)).drewN 1⟩, by simp [intOf]; omega⟩
      have := Hj.out
      congr 1
      omega
    · go_wp2
      go_end0
      exact ⟨rfl, cl, HI.out.1, HI.out.2.1.1, by rw [← List.map_reverse]; exact HI.out.2.1.end hn HB.out.2 (by omega) hi, HI.out.2.2⟩
end Go.Proofs.YtjpjepfmphlneaaGreatDoor

namespace Go.Proofs.YtjpjepfmphlneaaGreatDoor
/-- The number of bytes, the lowest first. -/
def leN (l : List UInt8) : Nat := bv l.reverse
/-- The bytes of a number, the lowest first. -/
def leB (n V : Nat) : List UInt8 := (tobe n V).reverse
/-- The bytes of a point. -/
def encL (P : Nat × Nat) : List UInt8 := leB 32 (enN P)
theorem leB_len (n V : Nat) : (leB n V).length = n := by unfold leB; rw [List.length_reverse, tobe_length]
theorem leN_leB (n V : Nat) (h : V < 256 ^ n) : leN (leB n V) = V := by
  unfold leN leB
  rw [List.reverse_reverse, bv_tobe, Nat.mod_eq_of_lt h]
theorem leB_leN (l : List UInt8) : leB l.length (leN l) = l := by
  unfold leB leN
  rw [tobe_bv l.length l.reverse (List.length_reverse), List.reverse_reverse]
theorem leN_cons (c : UInt8) (l : List UInt8) : leN (c :: l) = leN l * 256 + c.toNat := by
  unfold leN
  rw [List.reverse_cons, bv_snoc]
theorem h256 : 256 ^ 32 = 2 * h255 := by decide +kernel
theorem bv_lt (l : List UInt8) : bv l < 256 ^ l.length := by
  have h := bv_tobe l.length (bv l)
  rw [tobe_bv l.length l rfl] at h
  have h2 := Nat.mod_lt (bv l) (show 0 < 256 ^ l.length from Nat.pow_pos (by decide))
  omega
theorem leN_lt (l : List UInt8) : leN l < 256 ^ l.length := by
  have := bv_lt l.reverse
  rw [List.length_reverse] at this
  exact this
theorem leN_app (l m : List UInt8) : leN (l ++ m) = leN l + 256 ^ l.length * leN m := by
  induction l with
  | nil => rw [List.nil_append, List.length_nil, Nat.pow_zero, Nat.one_mul, show leN [] = 0 from rfl, Nat.zero_add]
  | cons c l ih =>
    rw [List.cons_append, leN_cons, ih, leN_cons, List.length_cons, Nat.pow_succ]
    grind
theorem enc_iff {P : Nat × Nat} {l : List UInt8} (h : onE eP eD P) (hl : l.length = 32) : encL P = l ↔ leN l = enN P := by
  have h1 : enN P < 256 ^ 32 := by rw [h256]; exact enN_lt h
  constructor
  · rintro rfl
    exact leN_leB 32 _ h1
  · intro e
    unfold encL
    rw [← e, ← hl]
    exact leB_leN l
theorem encL_len (P : Nat × Nat) : (encL P).length = 32 := leB_len _ _
theorem encL_inj {P Q : Nat × Nat} (h1 : onE eP eD P) (h2 : onE eP eD Q) (h : encL P = encL Q) : P = Q :=
  enN_inj h1 h2 (by rw [← (enc_iff h1 (encL_len P)).1 rfl, h]; exact (enc_iff h2 (encL_len Q)).1 rfl)
/-- The last of 32 bytes. -/
theorem last32 {l : List UInt8} (h : l.length = 32) : ∃ m c, l = m ++ [c] ∧ m.length = 31 := by
  have hne : l ≠ [] := fun e => by rw [e] at h; simp at h
  exact ⟨l.dropLast, l.getLast hne, (List.dropLast_concat_getLast hne).symm, by rw [List.length_dropLast]; omega⟩
theorem leN_one (c : UInt8) : leN [c] = c.toNat := by rw [leN_cons]; simp [leN, bv]
theorem leN_last {m : List UInt8} (c : UInt8) (h : m.length = 31) : leN (m ++ [c]) = leN m + 256 ^ 31 * c.toNat := by rw [leN_app, h, leN_one]
theorem h31 : h255 = 256 ^ 31 * 128 := by decide +kernel
theorem andN80 : ∀ c : UInt8, (c &&& 127).toNat = c.toNat % 128 := by
  have h : ∀ n : Fin 256, ((UInt8.ofNat n.val) &&& 127).toNat = (UInt8.ofNat n.val).toNat % 128 := by decide +kernel
  intro c
  have := h ⟨c.toNat, c.toNat_lt⟩
  rwa [UInt8.ofNat_toNat] at this
theorem or80 : ∀ c : UInt8, c.toNat < 128 → (c ||| 128).toNat = c.toNat + 128 := by
  have h : ∀ n : Fin 256, n.val < 128 → ((UInt8.ofNat n.val) ||| 128).toNat = n.val + 128 := by decide +kernel
  intro c hc
  have := h ⟨c.toNat, c.toNat_lt⟩ hc
  rwa [UInt8.ofNat_toNat] at this
theorem le_y {m : List UInt8} (c d : UInt8) (h : m.length = 31) (hd : d.toNat = c.toNat % 128) : leN (m ++ [d]) = leN (m ++ [c]) % h255 := by
  have h1 := leN_lt m
  rw [h] at h1
  rw [leN_last d h, leN_last c h, hd, h31]
  have h2 := Nat.div_add_mod c.toNat 128
  generalize 256 ^ 31 = M at *
  have h3 := Nat.mod_lt c.toNat (show 0 < 128 by decide)
  have e : leN m + M * c.toNat = leN m + M * (c.toNat % 128) + M * 128 * (c.toNat / 128) := by
    conv => lhs; rw [← h2]
    grind
  have h4 : M * (c.toNat % 128) ≤ M * 127 := Nat.mul_le_mul_left _ (by omega)
  have h5 : leN m + M * (c.toNat % 128) < M * 128 := by
    clear e h2 h3
    generalize M * (c.toNat % 128) = X at *
    omega
  rw [e, Nat.add_mul_mod_self_left, Nat.mod_eq_of_lt h5]
theorem le_o {m : List UInt8} (c : UInt8) (h : m.length = 31) : leN (m ++ [c]) / h255 = c.toNat / 128 := by
  have h1 := leN_lt m
  rw [h] at h1
  rw [leN_last c h, h31]
  have h2 := Nat.div_add_mod c.toNat 128
  have h3 := Nat.mod_lt c.toNat (show 0 < 128 by decide)
  generalize 256 ^ 31 = M at *
  have e : leN m + M * c.toNat = leN m + M * (c.toNat % 128) + M * 128 * (c.toNat / 128) := by
    conv => lhs; rw [← h2]
    grind
  have h4 : M * (c.toNat % 128) ≤ M * 127 := Nat.mul_le_mul_left _ (by omega)
  have h5 : leN m + M * (c.toNat % 128) < M * 128 := by
    clear e h2 h3
    generalize M * (c.toNat % 128) = X at *
    omega
  rw [e, Nat.add_mul_div_left _ _ (by omega), Nat.div_eq_of_lt h5, Nat.zero_add]
/-- What Encode writes: the bytes of y, and the bit. -/
theorem enc_even {P : Nat × Nat} (h0 : P.1 % 2 = 0) : encL P = leB 32 P.2 := by
  unfold encL enN
  rw [h0, Nat.mul_zero, Nat.add_zero]
theorem enc_odd {P : Nat × Nat} {m : List UInt8} {c d : UInt8} (h : onE eP eD P) (h1 : P.1 % 2 = 1) (hm : leB 32 P.2 = m ++ [c]) (hd : d = c ||| 128) : encL P = m ++ [d] := by
  have hl : m.length = 31 := by
    have := congrArg List.length hm
    rw [leB_len, List.length_append, List.length_singleton] at this
    omega
  have hy : P.2 < h255 := Nat.lt_trans h.2.1 eP_lt
  have e : leN (m ++ [c]) = P.2 := by
    rw [← hm]
    exact leN_leB 32 _ (by rw [h256]; omega)
  have hc : c.toNat < 128 := by
    have h2 := le_o c hl
    rw [e, Nat.div_eq_of_lt hy] at h2
    omega
  rw [enc_iff h (by rw [List.length_append, hl]; rfl)]
  subst hd
  unfold enN
  rw [leN_last _ hl, or80 c hc, h1, Nat.mul_one, ← e, leN_last _ hl, h31]
  grind
/-- Decode's outcome. -/
theorem dec_ok {l : List UInt8} {U : Nat} (_hl : l.length = 32) (_h : onE eP eD (dcX U (leN l / h255), leN l % h255)) (hp : dcX U (leN l / h255) % 2 = leN l / h255) : leN l = enN (dcX U (leN l / h255), leN l % h255) := by
  unfold enN
  show leN l = leN l % h255 + h255 * (dcX U (leN l / h255) % 2)
  rw [hp, Nat.add_comm]
  exact (Nat.div_add_mod (leN l) h255).symm
theorem dec_no {l : List UInt8} {U : Nat} {P : Nat × Nat} (hU : U < eP) (hq : (eP : Int) ∣ (1 + eD * (((leN l % h255 : Nat) : Int) * (leN l % h255 : Nat))) * U - (((leN l % h255 : Nat) : Int) * (leN l % h255 : Nat) - 1)) (h : onE eP eD P) (he : leN l = enN P) : onE eP eD (dcX U (leN l / h255), leN l % h255) ∧ dcX U (leN l / h255) % 2 = leN l / h255 := by
  have h1 : leN l % h255 = P.2 := by rw [he, enN_y h]
  have h2 : leN l / h255 = P.1 % 2 := by rw [he, enN_x h]
  rw [h1] at hq ⊢
  rw [h2]
  have h3 := dec_some h hU hq
  rw [h3]
  exact ⟨h, rfl⟩
end Go.Proofs.YtjpjepfmphlneaaGreatDoor

namespace Go.Proofs.YtjpjepfmphlneaaGreatDoor
open Go.RowKit

set_option maxRecDepth 100000

/-- A row of bytes of one's own, by its block. -/
theorem Owb.blk {w : World} {base : Nat} {v : Value} {l : List UInt8} (h : Owb w base v l) (h0 : 0 < l.length) : ∃ g cap cs, v = .slice (some ⟨g, 0, none⟩) l.length cap ∧ base ≤ g ∧ g < w.heap.size ∧ Bl 5 w g cs ∧ l.length ≤ cs.length ∧ cs.take l.length = l.map B ∧ cs.length = cap ∧ cap ≤ maxLen := by
  have hlt := World.ownsRow.lt h
  rcases h.2 with ⟨rfl, h1⟩ | ⟨g, cap, cur, rfl, hg, hh, hn, hc, hsz, ht⟩
  · omega
  · refine ⟨g, cap, cur.toList, rfl, hg, (hlt g rfl).2, ?_, ?_, ?_, ?_, hc⟩
    · unfold Bl
      rw [hh]
    · have h5 : cur.size = cap := by simpa using hsz
      have h6 : cur.toList.length = cur.size := Array.length_toList
      omega
    · simpa using ht
    · have h5 : cur.size = cap := by simpa using hsz
      have h6 : cur.toList.length = cur.size := Array.length_toList
      omega
theorem Bl.owb' {w : World} {base g : Nat} {cs : List Value} {l : List UInt8} (h : Bl 5 w g cs) (hg : base ≤ g) (h1 : cs.take l.length = l.map B) (h2 : l.length ≤ cs.length) (h3 : cs.length ≤ maxLen) : Owb w base (.slice (some ⟨g, 0, none⟩) l.length cs.length) l := by
  refine ⟨by simp, .inr ⟨g, cs.length, cs.toArray, rfl, hg, h, h2, h3, by simp, ?_⟩⟩
  simpa using h1
theorem rd_of {w : World} {g : Nat} {cs : List Value} {l : List UInt8} (h : Bl 5 w g cs) (h1 : cs.take l.length = l.map B) (h2 : l.length ≤ cs.length) : Rd w (some ⟨g, 0, none⟩) l := by
  have hlt : g < w.heap.size := (Array.getElem?_eq_some_iff.1 h).1
  refine .inr ⟨g, 0, rfl, hlt, fun j hj => ?_⟩
  rw [Nat.zero_add, h.cell j (by omega)]
  have e : cs[j]? = some (B l[j]) := by rw [← List.getElem?_take_of_lt hj, h1, List.getElem?_map, List.getElem?_eq_getElem hj]; rfl
  rw [List.getElem?_eq_getElem (by omega)] at e
  rw [e, List.getD_eq_getElem?_getD, List.getElem?_eq_getElem hj, Option.getD_some]
theorem pw8 (n : Nat) : 256 ^ n = pw (8 * n) := by
  unfold pw
  rw [show 256 = 2 ^ 8 by decide, ← Nat.pow_mul]
set_option maxHeartbeats 4000000 in
theorem lowest_v (ao : Option Addr) (c : Nat) (l : List UInt8) (w : World) (hr : Rd w ao l) (h0 : 0 < l.length) (hl : l.length ≤ 64) :
    Calls Tryz.prog 40 #[.slice ao l.length c] w fun e w' => ∃ r, e = .returned r ∧ Rk w w' r (leN l) (8 * l.length) := by
  have C := clone_v ao c l w hr h0 (by omega)
  clear hr
  go_enter Tryz.func40, Tryz.ntmps40
  go_wp2_with fail
  refine C.mono ?_
  clear C
  rintro e w1 ⟨v, rfl, hO, hB⟩
  obtain ⟨g, cap, cs, rfl, hg, hgl, hb, hn, ht, hcap, _⟩ := hO.blk h0
  have C := reverse_v g l.length cap cs l w1 hb hn ht (by omega)
  have HB : Hid (Below w.heap.size w w1 ∧ w.heap.size ≤ g ∧ cs.length = cap ∧ l.length ≤ cs.length) := ⟨hB, hg, hcap, hn⟩
  clear hO hB hg hgl hb hn ht hcap
  go_wp2_with fail
  refine C.mono ?_
  clear C
  rintro e w2 ⟨rfl, cs', hb, hlen, ht, hbut⟩
  have hrd : Rd w2 (some ⟨g, 0, none⟩) l.reverse := rd_of hb (by rw [List.length_reverse]; exact ht) (by rw [List.length_reverse, hlen]; exact HB.out.2.2.2)
  have C := fromBytes_any _ cap l.reverse w2 hrd (by rw [List.length_reverse]; omega)
  rw [List.length_reverse] at C
  have HB2 : Hid (Below w.heap.size w w2) := HB.out.1.trans (hbut.below HB.out.1.size HB.out.2.1)
  clear hb hlen ht hbut hrd
  go_wp2_with fail
  refine C.mono ?_
  clear C
  rintro e w3 ⟨r, rfl, hO, hB⟩
  have hlt : leN l < pw (8 * l.length) := by rw [← pw8]; exact leN_lt l
  have HX : Hid (Rk w w3 r (leN l) (8 * l.length)) := ⟨⟨hO.base HB2.out.size, Nat.le_trans (dgl_pw hlt (by omega)) (by decide), HB2.out.trans (hB.mono HB2.out.size)⟩, hlt⟩
  obtain ⟨r0, r1, r2, rfl⟩ := HX.out.sl
  clear hO hB hlt
  go_wp2
  go_ret
  exact ⟨_, rfl, HX.out⟩
theorem Fm.butB {w wN w' : World} {bs : List (TypeId × List Value)} {g : Nat} (h : Fm w wN bs [] []) (hb : But wN w' g) (hg : w.heap.size + bs.length ≤ g) : Fm w w' bs [] [] := by
  refine ⟨fun i hi => ?_, fun q hq => (by cases hq), fun q hq => (by cases hq), .nil, Nat.le_trans h.sz hb.size, h.bel.trans (hb.below h.bel.size (by omega))⟩
  have h1 := h.bx i hi
  unfold Bl at *
  rw [hb.block _ (Array.getElem?_eq_some_iff.1 h1).1 (by omega)]
  exact h1
theorem bit80 (d : UInt8) : bits BinOp.and IntKind.u8 (d.toNat : Int) 128 = if d.toNat / 128 = 1 then 128 else 0 := by
  have h : ∀ n : Fin 256, bits BinOp.and IntKind.u8 ((n.val : Nat) : Int) 128 = if n.val / 128 = 1 then 128 else 0 := by decide +kernel
  exact h ⟨d.toNat, d.toNat_lt⟩
theorem bitn80 (d : UInt8) : bits BinOp.andNot IntKind.u8 (d.toNat : Int) 128 = ((d &&& 127).toNat : Int) := by
  have h : ∀ n : Fin 256, bits BinOp.andNot IntKind.u8 ((n.val : Nat) : Int) 128 = ((n.val % 128 : Nat) : Int) := by decide +kernel
  rw [andN80]
  exact h ⟨d.toNat, d.toNat_lt⟩
theorem bito80 (d : UInt8) (hd : d.toNat < 128) : bits BinOp.or IntKind.u8 (d.toNat : Int) 128 = ((d ||| 128).toNat : Int) := by
  have h : ∀ n : Fin 256, n.val < 128 → bits BinOp.or IntKind.u8 ((n.val : Nat) : Int) 128 = ((n.val + 128 : Nat) : Int) := by decide +kernel
  rw [or80 d hd]
  exact h ⟨d.toNat, d.toNat_lt⟩ hd
/-- The number's lowest digit. -/
theorem ebit0_v (v : Value) (V : Nat) (w : World) (hv : Nu w v V) : Calls Tryz.prog 50 #[v, .int .i64 0] w fun e w' => e = .returned (.bool (decide (V % 2 = 1))) ∧ w' = w := by
  obtain ⟨xs, n1, rfl, k1⟩ := hv
  have C := bit_pos 0 v xs w n1 (by omega)
  rw [Nat.pow_zero, Nat.div_one] at C
  exact C
end Go.Proofs.YtjpjepfmphlneaaGreatDoor
