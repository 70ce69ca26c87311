import Derived.Test.YtfpimcmhooiooaaGreatDoorLZ
import Derived.Deep.AppendLies
import Derived.Laws.AppendOwnNone
namespace Go.Proofs.YtfpimcmhooiooaaGreatDoor
open Go.RowKit

def tV (s : List UInt8) : Value := .string ⟨s.toArray⟩
/-- A list of texts of one's own. -/
def OT (B : Nat) (w : World) (v : Value) (l : List (List UInt8)) : Prop := w.ownsRow B 9 1 v l.length (l.map tV)
theorem infoTx : (Tryz.prog.info? 9).map (fun i => (i.zero, i.size, i.bytes)) = some (some (.string ⟨#[]⟩), 1, 16) := by kernel_rfl
theorem OT.tr {B : Nat} {w : World} {v : Value} {l : List (List UInt8)} (h : OT B w v l) : ∃ ao cap, v = .slice ao l.length cap ∧ TR w (.slice ao l.length cap) l ao cap := by
  obtain ⟨a, c, e, hc, hg⟩ := own_slice h
  refine ⟨a, c, e, rfl, hc, ?_⟩
  rcases Nat.eq_zero_or_pos l.length with h0 | h0
  · exact .inl (List.eq_nil_of_length_eq_zero h0)
  · obtain ⟨g, rfl⟩ := hg h0
    refine .inr ⟨g, 0, rfl, (h.lt g (by rw [e]; rfl)).2, fun j hj => ?_⟩
    rw [Nat.zero_add]
    unfold OT at h
    rw [e] at h
    refine (own_cell h j _ ?_).1
    rw [List.getElem?_map, List.getElem?_eq_getElem hj, List.getD_eq_getElem?_getD, List.getElem?_eq_getElem hj]
    rfl
/-- append of texts that can be read behind a list of one's own. -/
theorem append_txt {wr : World} {ops : Array Oper} {rest : List Oper} {o : Oper} {a : Act} {Q : Exit → Act → World → Prop} (hgd : o.guard = none) (s x : Operand)
    (ho : o.op = .call { callee := .builtin .append, args := #[s, x], argTypes := #[22, 22] })
    (B : Nat) (v : Value) (l : List (List UInt8)) (hs : a.eval s = v) (h : OT B wr v l) (ao : Option Addr) (cap : Nat) (m : List (List UInt8)) (hx : a.eval x = .slice ao m.length cap) (hR : TR wr (.slice ao m.length cap) m ao cap) (hn : ao = none → cap = 0) (hl : l.length + m.length ≤ 1000000000) (hB : B ≤ wr.heap.size)
    (k : ∀ v' w', OT B w' v' (l ++ m) → wr.grownBy w' v.ownBlock → wpList Tryz.prog ops Q rest (a.put o.dst v') w') : wpList Tryz.prog ops Q (o :: rest) a wr := by
  obtain ⟨i, hi, hz, hsize, hby⟩ := info_parts infoTx
  cases ao with
  | none =>
    obtain rfl := hn rfl
    have hm : m = [] := by
      rcases hR.cell with e | ⟨g, off, e, _⟩
      · exact e
      · cases e
    subst hm
    refine wpList_append_own_none hgd s x 22 ho B 9 i 1 Tryz.underlying22 hi v l.length (l.map tV) hs h hx ?_
    refine k v wr (by rw [List.append_nil]; exact h) ⟨rfl, rfl, rfl, Nat.le_refl _, fun _ _ _ => rfl⟩
  | some ad =>
    refine wpList_append_own_wide _ hgd s x 22 ho B 9 i (.string ⟨#[]⟩) 1 16 Tryz.underlying22 hi hz hsize hby rfl (by decide) v l.length (l.map tV) hs h ad m.length cap (m.map tV) hx (by simp) ?_ (by intro u hu; obtain ⟨y, _, rfl⟩ := List.mem_map.1 hu; rfl) (by unfold maxLen; omega) (by omega) hB ?_
    · intro j u hu
      rw [List.getElem?_map, Option.map_eq_some_iff] at hu
      obtain ⟨y, hy, rfl⟩ := hu
      have hj := (List.getElem?_eq_some_iff.1 hy).1
      rcases hR.cell with e | ⟨g, off, e, _, hc⟩
      · subst e; simp at hj
      · cases e
        rw [Addr.add_lit, hc j hj, List.getD_eq_getElem?_getD, hy]
        rfl
    · intro v' w' h2 h3 _
      refine k v' w' ?_ h3
      unfold OT
      rw [List.length_append, List.map_append]
      exact h2

set_option maxRecDepth 100000 in
set_option maxHeartbeats 32000000 in
theorem none_any (ao : Option Addr) (cap : Nat) (l : List (List UInt8)) (iss : ByteArray) (hi : Bool) (aud : ByteArray) (ha : Bool) (ty : List UInt8) (wt : Bool) (lee : Int) (na : Option Addr) (nl nc : Nat) (h : Hd) (text more : List UInt8) (w : World)
    (hR : TR w (.slice ao l.length cap) l ao cap) (hna : ao = none → cap = 0) (hl : l.length ≤ 10000000) (hG : GL w.heap.size w) (hA : Alg w) :
    Calls Tryz.prog 3 #[plV (.slice ao l.length cap) iss hi aud ha ty wt lee (.slice na nl nc), .string ⟨text.toArray⟩, hdV h, .string ⟨more.toArray⟩] w fun e w' => e = .returned (.bool true) ∧ Below w.heap.size w w' := by
  have HGq : Hid (∀ wq, Below w.heap.size w wq → GL wq.heap.size wq) := fun wq hq => (hG.below hq).up hq.size
  have HAq : Hid (∀ wq, Below w.heap.size w wq → Alg wq) := fun wq hq => hA.bel hq (Nat.le_refl _)
  have HST : Hid (∀ wq, Below w.heap.size w wq → Calls Tryz.prog 8 #[] wq fun e w' => e = .returned (.bool true) ∧ Below wq.heap.size wq w') := fun wq hq => started_any wq (HGq.out wq hq) (HAq.out wq hq)
  have HTR : Hid (∀ wq, Below w.heap.size w wq → TR wq (.slice ao l.length cap) l ao cap) := fun wq hq => hR.below hq (Nat.le_refl _)
  have HAL : Hid (∀ (bo : Option Addr) (bc : Nat) (m : List (List UInt8)) wq, Below w.heap.size w wq → TR wq (.slice bo m.length bc) m bo bc → m.length ≤ 20000000 → Calls Tryz.prog 9 #[plV (.slice bo m.length bc) iss hi aud ha ty wt lee (.slice na nl nc), hdV h] wq fun e w' => e = .returned (.int .i64 (allowF m wt ty h : Nat)) ∧ Below wq.heap.size wq w') := fun bo bc m wq hq hr hm => allow_any bo bc m iss hi aud ha ty wt lee (.slice na nl nc) h wq hr (by omega) (HAq.out wq hq)
  obtain ⟨alg, kid, typ, has⟩ := h
  obtain ⟨nm, hnm⟩ : ∃ nm, nameF' alg = nm := ⟨_, rfl⟩
  obtain ⟨E, hE⟩ : ∃ E, allowF l wt ty ⟨alg, kid, typ, has⟩ = E := ⟨_, rfl⟩
  obtain ⟨F, hF⟩ : ∃ F, allowF (more :: l) wt ty ⟨alg, kid, typ, has⟩ = F := ⟨_, rfl⟩
  have key : (nm = [] ∧ E = 112) ∨ (nm ≠ [] ∧ nm ∉ l ∧ E = 112) ∨ (nm ≠ [] ∧ nm ∈ l ∧ E ≠ 112 ∧ F = E) := by
    rw [← hE, ← hF]
    unfold allowF
    dsimp only
    rw [hnm]
    by_cases h0 : nm = []
    · exact Or.inl ⟨h0, if_pos (Or.inl h0)⟩
    · right
      by_cases h1 : nm ∈ l
      · right
        refine ⟨h0, h1, ?_, ?_⟩
        · rw [if_neg (fun h => h.elim h0 fun h => h h1)]
          split <;> decide
        · have a1 : ¬ (nm = [] ∨ nm ∉ l) := fun h => h.elim h0 fun h => h h1
          have a2 : ¬ (nm = [] ∨ nm ∉ more :: l) := fun h => h.elim h0 fun h => h (List.mem_cons_of_mem _ h1)
          rw [if_neg a2, if_neg a1]
      · exact Or.inl ⟨h0, h1, if_pos (Or.inr h1)⟩
  have HNm0 : Hid (∀ wq, Below w.heap.size w wq → Calls Tryz.prog 10 #[.int .i64 alg] wq fun e w' => e = .returned (.string ⟨nm.toArray⟩) ∧ w' = wq) := fun wq hq => by
    have := kname_any alg wq (HAq.out wq hq)
    rwa [hnm] at this
  have CA1 : Hid (∀ wq, Below w.heap.size w wq → Calls Tryz.prog 9 #[.agg (([.slice ao l.length cap, .string iss, .bool hi, .string aud, .bool ha, .string ⟨ty.toArray⟩, .bool wt, .int .i64 lee, .slice na nl nc] : List Value).toArray), .agg (([.int .i64 alg, .string ⟨kid.toArray⟩, .string ⟨typ.toArray⟩, .bool has] : List Value).toArray)] wq fun e w' => e = .returned (.int .i64 (E : Nat)) ∧ Below wq.heap.size wq w') := fun wq hq => by
    have := HAL.out ao cap l wq hq (HTR.out wq hq) (by omega)
    rw [hE] at this
    exact this
  have CA2 : Hid (∀ (bo : Option Addr) (bc : Nat) wq, Below w.heap.size w wq → TR wq (.slice bo (l.length + 1) bc) (more :: l) bo bc → Calls Tryz.prog 9 #[.agg (([.slice bo (l.length + 1) bc, .string iss, .bool hi, .string aud, .bool ha, .string ⟨ty.toArray⟩, .bool wt, .int .i64 lee, .slice na nl nc] : List Value).toArray), .agg (([.int .i64 alg, .string ⟨kid.toArray⟩, .string ⟨typ.toArray⟩, .bool has] : List Value).toArray)] wq fun e w' => e = .returned (.int .i64 (F : Nat)) ∧ Below wq.heap.size wq w') := fun bo bc wq hq hr => by
    have := HAL.out bo bc (more :: l) wq hq hr (by simp only [List.length_cons]; omega)
    rw [hF] at this
    exact this
  obtain ⟨R, hRR⟩ : ∃ R, hparseF text = R := ⟨_, rfl⟩
  obtain ⟨⟨ga, gk, gt, gh⟩, gc⟩ := R
  have hfg := hparse_facts text
  rw [hRR] at hfg
  dsimp only at hfg
  have HPt : Hid (∀ wq, Below w.heap.size w wq → Calls Tryz.prog 11 #[.string ⟨text.toArray⟩] wq fun e w' => e = .returned (.tuple #[.agg #[.int .i64 ga, .string ⟨gk.toArray⟩, .string ⟨gt.toArray⟩, .bool gh], .int .i64 (gc : Nat)]) ∧ Below wq.heap.size wq w') := fun wq hq => by
    have := hparse_any text wq (HGq.out wq hq) (HAq.out wq hq)
    rw [hRR] at this
    exact this
  have HFG : Hid (gc = 0 → 1 ≤ ga ∧ ga ≤ 12) := fun h0 => (hfg h0).1
  clear hnm hE hF hG hA HAL hfg hRR HGq
  unfold plV hdV
  dsimp only
  obtain ⟨W, hW⟩ : ∃ W : World, W = (w.alloc (.cells (([.slice ao l.length cap, .string iss, .bool hi, .string aud, .bool ha, .string ⟨ty.toArray⟩, .bool wt, .int .i64 lee, .slice na nl nc] : List Value).toArray) 24)).alloc (.cells (([.int .i64 alg, .string ⟨kid.toArray⟩, .string ⟨typ.toArray⟩, .bool has] : List Value).toArray) 27) := ⟨_, rfl⟩
  have hB : Below w.heap.size w W := by rw [hW]; exact ((alloc_below _ _).mono (Nat.le_refl _)).trans ((alloc_below _ _).mono (by simp))
  have b1 : Bl 24 W w.heap.size [.slice ao l.length cap, .string iss, .bool hi, .string aud, .bool ha, .string ⟨ty.toArray⟩, .bool wt, .int .i64 lee, .slice na nl nc] := by
    rw [hW]
    exact (alloc_bl w _ _).below (alloc_below _ _) (by simp)
  have b2 : Bl 27 W (w.heap.size + 1) [.int .i64 alg, .string ⟨kid.toArray⟩, .string ⟨typ.toArray⟩, .bool has] := by
    have := alloc_bl (w.alloc (.cells (([.slice ao l.length cap, .string iss, .bool hi, .string aud, .bool ha, .string ⟨ty.toArray⟩, .bool wt, .int .i64 lee, .slice na nl nc] : List Value).toArray) 24)) [.int .i64 alg, .string ⟨kid.toArray⟩, .string ⟨typ.toArray⟩, .bool has] 27
    rw [hW]
    simpa using this
  have hs1 : w.heap.size < W.heap.size := b1.lt
  have hs2 : w.heap.size + 1 < W.heap.size := b2.lt
  have HP : Hid (∀ wq, Below W.heap.size W wq → Bl 24 wq w.heap.size [.slice ao l.length cap, .string iss, .bool hi, .string aud, .bool ha, .string ⟨ty.toArray⟩, .bool wt, .int .i64 lee, .slice na nl nc]) := fun wq hq => b1.below hq hs1
  have HH : Hid (∀ wq, Below W.heap.size W wq → Bl 27 wq (w.heap.size + 1) [.int .i64 alg, .string ⟨kid.toArray⟩, .string ⟨typ.toArray⟩, .bool has]) := fun wq hq => b2.below hq hs2
  have HB : Hid (∀ wq, Below W.heap.size W wq → Below w.heap.size w wq) := fun wq hq => hB.trans (hq.mono (Nat.le_of_lt hs1))
  have HNm : Hid (∀ wq, Below W.heap.size W wq → Calls Tryz.prog 10 #[.int .i64 alg] wq fun e w' => e = .returned (.string ⟨nm.toArray⟩) ∧ w' = wq) := fun wq hq => HNm0.out wq (HB.out wq hq)
  have hcp : (Tryz.prog.info? 24).map (·.size) = some ([.slice ao l.length cap, .string iss, .bool hi, .string aud, .bool ha, .string ⟨ty.toArray⟩, .bool wt, .int .i64 lee, .slice na nl nc] : List Value).length := by kernel_rfl
  have hch : (Tryz.prog.info? 27).map (·.size) = some ([.int .i64 alg, .string ⟨kid.toArray⟩, .string ⟨typ.toArray⟩, .bool has] : List Value).length := by kernel_rfl
  have C0 := HST.out W hB
  clear HST b1 b2 hB hs1 hs2 HNm0
  go_enter Tryz.func3, Tryz.ntmps3
  go_wp2_with fail
  rw [← hW]
  clear hW
  refine C0.mono ?_
  clear C0
  rintro e w1 ⟨rfl, hB1⟩
  have p1 := (HP.out w1 hB1).range
  have q1 := (HH.out w1 hB1).range
  have C1 := CA1.out w1 (HB.out w1 hB1)
  clear CA1
  go_wp2_with (first | (refine wpList_load_mid rfl 24 (.tmp 4) rfl w.heap.size 0 rfl [.slice ao l.length cap, .string iss, .bool hi, .string aud, .bool ha, .string ⟨ty.toArray⟩, .bool wt, .int .i64 lee, .slice na nl nc] _ p1 Tryz.underlying24 rfl hcp ?_) | (refine wpList_load_mid rfl 27 (.tmp 6) rfl (w.heap.size + 1) 0 rfl [.int .i64 alg, .string ⟨kid.toArray⟩, .string ⟨typ.toArray⟩, .bool has] _ q1 Tryz.underlying27 rfl hch ?_))
  refine C1.mono ?_
  clear C1 p1 q1
  rintro e w2 ⟨rfl, hB2⟩
  have HB2 : Hid (Below W.heap.size W w2) := hB1.trans (hB2.mono hB1.size)
  clear hB1 hB2
  go_wp2
  go_loopw [10, 11] (fun s10 s11 wx => ∃ k : Nat, s11 = .int .i64 k ∧ k ≤ l.length ∧ s10 = .bool (decide (nm ∈ l.take k)) ∧ Below W.heap.size W wx) (fun _ x _ => l.length - (intOf x).toNat)
  case atStart => exact ⟨0, rfl, Nat.zero_le _, by simp, HB2.out⟩
  case round =>
    obtain ⟨k, rfl, hk, rfl, hBr⟩ := hrel
    have c0 : wr.cell? ⟨w.heap.size, 0, none⟩ = some (.slice ao l.length cap) := (HP.out wr hBr).cell 0 (by simp)
    by_cases hlt : k < l.length
    · have q0 : decide ((k : Int) < (l.length : Int)) = true := decide_eq_true (by omega)
      have d0 : wr.cell? ⟨w.heap.size + 1, 0, none⟩ = some (.int .i64 alg) := (HH.out wr hBr).cell 0 (by simp)
      obtain ⟨g, off, e', kc⟩ := (HTR.out wr (HB.out wr hBr)).at hlt
      subst e'
      obtain ⟨x, hx⟩ : ∃ x, l.getD k [] = x := ⟨_, rfl⟩
      rw [hx] at kc
      have hk0 : (0 : Int) ≤ (k : Int) := by omega
      have hki : (k : Int) < (l.length : Int) := by omega
      have CN : ∀ q, Calls Tryz.prog 10 #[.int .i64 alg] (wr.drewN q) fun e w' => e = .returned (.string ⟨nm.toArray⟩) ∧ w' = wr.drewN q := fun q => HNm.out _ (below_drewN hBr q)
      have htk : l.take (k + 1) = l.take k ++ [x] := by rw [List.take_add_one, List.getElem?_eq_getElem hlt, ← hx, List.getD_eq_getElem?_getD, List.getElem?_eq_getElem hlt]; rfl
      have HBr : Hid (Below W.heap.size W wr) := hBr
      by_cases he : x = nm
      · have HM : Hid (decide (nm ∈ l.take (k + 1)) = true) := decide_eq_true (by rw [htk, he]; simp)
        subst he
        have qe : (x == x) = true := by simp
        clear hx htk hBr
        go_wp2
        go_quiet (exact Calls.quiet_of_same (CN _))
        go_wp2
        go_roundw
        case rel => exact ⟨k + 1, by go_num, by omega, by rw [HM.out], below_drewN HBr.out _⟩
        case measure => simp [intOf]; omega
      · have HM : Hid (decide (nm ∈ l.take (k + 1)) = decide (nm ∈ l.take k)) := by show _ = _; rw [htk]; exact decide_eq_decide.2 (by simp [show nm ≠ x from fun h => he h.symm])
        have qe : (x == nm) = false := by simpa using he
        clear hx htk hBr he
        generalize decide (nm ∈ l.take k) = bb at *
        go_wp2
        go_quiet (exact Calls.quiet_of_same (CN _))
        go_wp2
        go_roundw
        case rel => exact ⟨k + 1, by go_num, by omega, by rw [HM.out], below_drewN HBr.out _⟩
        case measure => simp [intOf]; omega
    · have q0 : decide ((k : Int) < (l.length : Int)) = false := decide_eq_false (by omega)
      have htk : l.take k = l := List.take_of_length_le (by omega)
      rw [htk]
      clear htk
      rcases key with ⟨rfl, rfl⟩ | ⟨hn0, hnl, rfl⟩ | ⟨hn0, hnl, hE, rfl⟩
      · generalize decide (([] : List UInt8) ∈ l) = bb
        have CN10 := HNm.out wr hBr
        have n0 : wr.cell? ⟨w.heap.size + 1, 0, none⟩ = some (.int .i64 alg) := (HH.out wr hBr).cell 0 (by simp)
        have pr := (HP.out wr hBr).range
        have HBl : Hid (Below W.heap.size W wr) := hBr
        clear hBr
        go_wp2_with fail
        refine CN10.mono ?_
        clear CN10
        rintro e wn ⟨rfl, hwn⟩
        obtain rfl := hwn.symm
        obtain ⟨qb, hqb⟩ : ∃ qb, wr.heap.size = qb := ⟨_, rfl⟩
        obtain ⟨w3, hw3⟩ : ∃ w3 : World, wr.alloc (.cells (([.slice none 0 0, .string iss, .bool hi, .string aud, .bool ha, .string ⟨ty.toArray⟩, .bool wt, .int .i64 lee, .slice na nl nc] : List Value).toArray) 24) = w3 := ⟨_, rfl⟩
        have HQ3 : Hid (Bl 24 w3 qb [.slice none 0 0, .string iss, .bool hi, .string aud, .bool ha, .string ⟨ty.toArray⟩, .bool wt, .int .i64 lee, .slice na nl nc]) := by rw [← hw3, ← hqb]; exact alloc_bl _ _ _
        have hB3 : Below W.heap.size W w3 := by rw [← hw3]; exact HBl.out.trans ((alloc_below _ _).mono HBl.out.size)
        have HW3 : Hid (wr.alloc (.cells (([.slice none 0 0, .string iss, .bool hi, .string aud, .bool ha, .string ⟨ty.toArray⟩, .bool wt, .int .i64 lee, .slice na nl nc] : List Value).toArray) 24) = w3) := hw3
        have HB3 : Hid (Below W.heap.size W w3) := hB3
        clear hw3 hB3
        go_upto_region 14 with (refine wpList_load_mid rfl 24 (.tmp 4) rfl w.heap.size 0 rfl [.slice ao l.length cap, .string iss, .bool hi, .string aud, .bool ha, .string ⟨ty.toArray⟩, .bool wt, .int .i64 lee, .slice na nl nc] _ pr Tryz.underlying24 rfl hcp ?_)
        rw [HW3.out]
        clear HW3 pr n0
        have s0 : w3.cell? ⟨qb, 0, none⟩ = some (.slice none 0 0) := HQ3.out.cell 0 (by simp)
        have hTm : TR (w3.alloc (.cells #[.string ⟨more.toArray⟩] 9)) (.slice (some ⟨w3.heap.size, 0, none⟩) 1 1) [more] (some ⟨w3.heap.size, 0, none⟩) 1 := by
          have hbm : Bl 9 (w3.alloc (.cells #[.string ⟨more.toArray⟩] 9)) w3.heap.size [.string ⟨more.toArray⟩] := alloc_bl _ _ _
          refine ⟨rfl, Nat.le_refl _, .inr ⟨w3.heap.size, 0, rfl, hbm.lt, fun j hj => ?_⟩⟩
          obtain rfl : j = 0 := by simpa using hj
          exact hbm.cell 0 (by simp)
        have HQm : Hid (Bl 24 (w3.alloc (.cells #[.string ⟨more.toArray⟩] 9)) qb [.slice none 0 0, .string iss, .bool hi, .string aud, .bool ha, .string ⟨ty.toArray⟩, .bool wt, .int .i64 lee, .slice na nl nc]) := HQ3.out.below (alloc_below _ _) HQ3.out.lt
        have HBm : Hid (Below W.heap.size W (w3.alloc (.cells #[.string ⟨more.toArray⟩] 9))) := HB3.out.trans ((alloc_below _ _).mono HB3.out.size)
        go_upto_region 15 with (at_builtin; refine append_txt (wr := w3.alloc (.cells #[.string ⟨more.toArray⟩] 9)) rfl (.tmp 51) (.tmp 53) rfl W.heap.size (.slice none 0 0) [] rfl (World.ownsRow_nil _ _ _ _) (some ⟨w3.heap.size, 0, none⟩) 1 [more] rfl hTm (fun h => by cases h) (show 0 + 1 ≤ 1000000000 by decide) HBm.out.size ?_; intro v1 w4 ho1 hg1; obtain ⟨a1, c1, rfl, _, _⟩ := own_slice ho1; have HQ4 : Hid (Bl 24 w4 qb [.slice none 0 0, .string iss, .bool hi, .string aud, .bool ha, .string ⟨ty.toArray⟩, .bool wt, .int .i64 lee, .slice na nl nc]) := bl_grown HQm.out hg1 (fun e => by cases e); have HB4 : Hid (Below W.heap.size W w4) := Below.grown HBm.out hg1 HBm.out.size (fun k e => by cases e); have HO4 : Hid (OT W.heap.size w4 (.slice a1 1 c1) [more]) := ho1; have s1 : w4.cell? ⟨qb, 0, none⟩ = some (.slice none 0 0) := HQ4.out.cell 0 (by simp); have f1 := HQ4.out.frozen 0; clear ho1 hg1)
        obtain ⟨w5, hw5⟩ : ∃ w5 : World, w4.setCell ⟨qb, 0, none⟩ (.slice a1 1 c1) = w5 := ⟨_, rfl⟩
        rw [hw5]
        have hqW : W.heap.size ≤ qb := by have := HBl.out.size; omega
        have HQ5 : Hid (Bl 24 w5 qb [.slice a1 1 c1, .string iss, .bool hi, .string aud, .bool ha, .string ⟨ty.toArray⟩, .bool wt, .int .i64 lee, .slice na nl nc]) := by rw [← hw5]; exact HQ4.out.set 0 _
        have HB5 : Hid (Below W.heap.size W w5) := by rw [← hw5]; exact Below.setCell HB4.out hqW _
        have HO5 : Hid (OT W.heap.size w5 (.slice a1 1 c1) [more]) := by
          have ha := block_apart HO4.out HQ4.out (by decide)
          rw [← hw5]
          exact own_keep HO4.out fun g hg => heap_setCell_other w4 _ g _ (fun e => ha (by rw [hg]; exact congrArg some e))
        have s5 : w5.cell? ⟨qb, 0, none⟩ = some (.slice a1 1 c1) := HQ5.out.cell 0 (by simp)
        have p5 : w5.cell? ⟨w.heap.size, 0, none⟩ = some (.slice ao l.length cap) := (HP.out w5 HB5.out).cell 0 (by simp)
        clear hw5 HQ4 HB4 HO4 s1 f1 HQm HBm hTm s0 HQ3 HB3
        go_upto_region 16 with (at_builtin; refine append_txt (wr := w5) rfl (.tmp 57) (.tmp 59) rfl W.heap.size (.slice a1 1 c1) [more] rfl HO5.out ao cap l rfl (HTR.out w5 (HB.out w5 HB5.out)) hna (by simp only [List.length_cons, List.length_nil]; omega) HB5.out.size ?_; intro v2 w6 ho2 hg2; obtain ⟨a2, c2, e2, _, _⟩ := own_slice ho2; rw [show ([more] ++ l).length = l.length + 1 by simp] at e2; subst e2; have ha2 := block_apart HO5.out HQ5.out (by decide); have HQ6 : Hid (Bl 24 w6 qb [.slice a1 1 c1, .string iss, .bool hi, .string aud, .bool ha, .string ⟨ty.toArray⟩, .bool wt, .int .i64 lee, .slice na nl nc]) := bl_grown HQ5.out hg2 ha2; have HB6 : Hid (Below W.heap.size W w6) := Below.grown HB5.out hg2 HB5.out.size (own_block HO5.out); have HO6 : Hid (OT W.heap.size w6 (.slice a2 (l.length + 1) c2) (more :: l)) := ho2; have s6 : w6.cell? ⟨qb, 0, none⟩ = some (.slice a1 1 c1) := HQ6.out.cell 0 (by simp); have f6 := HQ6.out.frozen 0; clear ho2 hg2 ha2)
        obtain ⟨w7, hw7⟩ : ∃ w7 : World, w6.setCell ⟨qb, 0, none⟩ (.slice a2 (l.length + 1) c2) = w7 := ⟨_, rfl⟩
        rw [hw7]
        have HQ7 : Hid (Bl 24 w7 qb [.slice a2 (l.length + 1) c2, .string iss, .bool hi, .string aud, .bool ha, .string ⟨ty.toArray⟩, .bool wt, .int .i64 lee, .slice na nl nc]) := by rw [← hw7]; exact HQ6.out.set 0 _
        have HB7 : Hid (Below W.heap.size W w7) := by rw [← hw7]; exact Below.setCell HB6.out hqW _
        have HO7 : Hid (OT W.heap.size w7 (.slice a2 (l.length + 1) c2) (more :: l)) := by
          have ha := block_apart HO6.out HQ6.out (by decide)
          rw [← hw7]
          exact own_keep HO6.out fun g hg => heap_setCell_other w6 _ g _ (fun e => ha (by rw [hg]; exact congrArg some e))
        have hT7 : TR w7 (.slice a2 (l.length + 1) c2) (more :: l) a2 c2 := by
          obtain ⟨bo, bc, e, ht⟩ := HO7.out.tr
          cases e
          exact ht
        have C7 := CA2.out a2 c2 w7 (HB.out w7 HB7.out) hT7
        have r7 := HQ7.out.range
        have h7 := (HH.out w7 HB7.out).range
        have hc7 : (Tryz.prog.info? 24).map (·.size) = some ([.slice a2 (l.length + 1) c2, .string iss, .bool hi, .string aud, .bool ha, .string ⟨ty.toArray⟩, .bool wt, .int .i64 lee, .slice na nl nc] : List Value).length := by kernel_rfl
        clear hw7 HQ6 HB6 HO6 HO5 HQ5 HB5 s5 p5 s6 f6 HQ7 HO7 hT7 CA2
        go_wp2_with (first | (refine wpList_load_mid rfl 24 (.tmp 12) rfl qb 0 rfl [.slice a2 (l.length + 1) c2, .string iss, .bool hi, .string aud, .bool ha, .string ⟨ty.toArray⟩, .bool wt, .int .i64 lee, .slice na nl nc] _ r7 Tryz.underlying24 rfl hc7 ?_) | (refine wpList_load_mid rfl 27 (.tmp 6) rfl (w.heap.size + 1) 0 rfl [.int .i64 alg, .string ⟨kid.toArray⟩, .string ⟨typ.toArray⟩, .bool has] _ h7 Tryz.underlying27 rfl hch ?_))
        refine C7.mono ?_
        clear C7 r7 h7
        rintro e w8 ⟨rfl, hw8⟩
        have HB8 : Hid (Below w.heap.size w w8) := HB.out w8 (HB7.out.trans (hw8.mono HB7.out.size))
        have C8 := HPt.out w8 HB8.out
        clear hw8 HPt HB7
        go_wp2_with fail
        refine C8.mono ?_
        clear C8
        rintro e w9 ⟨rfl, hw9⟩
        have HB9 : Hid (Below w.heap.size w w9) := HB8.out.trans (hw9.mono HB8.out.size)
        clear hw9
        obtain ⟨v2, hv2⟩ : ∃ v2 : World, w9.alloc (.cells (([.int .i64 ga, .string ⟨gk.toArray⟩, .string ⟨gt.toArray⟩, .bool gh] : List Value).toArray) 27) = v2 := ⟨_, rfl⟩
        have hbg : Bl 27 v2 w9.heap.size [.int .i64 ga, .string ⟨gk.toArray⟩, .string ⟨gt.toArray⟩, .bool gh] := by rw [← hv2]; exact alloc_bl _ _ _
        have HU : Hid (Below w.heap.size w v2) := by rw [← hv2]; exact HB9.out.trans ((alloc_below _ _).mono HB9.out.size)
        have HSS : Hid (∀ wq, Below v2.heap.size v2 wq → (fun (w' : World) => w'.cell? ⟨w9.heap.size, 0, none⟩ = some (.int .i64 ga) ∧ w'.cell? ⟨w9.heap.size, 1, none⟩ = some (.string ⟨gk.toArray⟩) ∧ w'.cell? ⟨w9.heap.size, 2, none⟩ = some (.string ⟨gt.toArray⟩) ∧ w'.cell? ⟨w9.heap.size, 3, none⟩ = some (.bool gh)) wq) := fun wq hq => by
          have := hbg.below hq hbg.lt
          exact ⟨this.cell 0 (by simp), this.cell 1 (by simp), this.cell 2 (by simp), this.cell 3 (by simp)⟩
        clear hbg
        by_cases hc : gc = 0
        · subst hc
          have hfg := HFG.out rfl
          have q1 : decide (ga ≥ 1) = true := decide_eq_true hfg.1
          have q12 : decide (ga ≤ 12) = true := decide_eq_true hfg.2
          obtain ⟨gn, hgn⟩ : ∃ gn, nameF' ga = gn := ⟨_, rfl⟩
          have hall : allowF [gn] false [] ⟨ga, gk, gt, gh⟩ = 0 := by
            unfold allowF
            have hne : nameF' ga ≠ [] := name_ne hfg.1 hfg.2
            rw [hgn] at hne ⊢
            simp [hne]
          have HGn : Hid (∀ wq, Below v2.heap.size v2 wq → Calls Tryz.prog 10 #[.int .i64 ga] wq fun e w' => e = .returned (.string ⟨gn.toArray⟩) ∧ w' = wq) := fun wq hq => by
            have := kname_any ga wq (HAq.out wq (HU.out.trans (hq.mono HU.out.size)))
            rwa [hgn] at this
          have HGa : Hid (∀ wq, Below v2.heap.size v2 wq → wq = ((v2.drewN 1).alloc (Obj.cells #[.string ⟨gn.toArray⟩] 9)) → Calls Tryz.prog 9 #[.agg #[.slice (some ⟨v2.heap.size, 0, none⟩) 1 1, .string { data := #[] }, .bool false, .string { data := #[] }, .bool false, .string { data := #[] }, .bool false, .int .i64 0, .slice none 0 0], .agg #[.int .i64 ga, .string ⟨gk.toArray⟩, .string ⟨gt.toArray⟩, .bool gh]] wq fun e w' => e = .returned (.int .i64 0) ∧ Below wq.heap.size wq w') := fun wq hq ew => by
            have hbm : Bl 9 wq v2.heap.size [.string ⟨gn.toArray⟩] := by rw [ew]; exact alloc_bl (v2.drewN 1) _ _
            have := allow_any (some ⟨v2.heap.size, 0, none⟩) 1 [gn] ⟨#[]⟩ false ⟨#[]⟩ false [] false 0 (.slice none 0 0) ⟨ga, gk, gt, gh⟩ wq ⟨rfl, Nat.le_refl _, .inr ⟨v2.heap.size, 0, rfl, hbm.lt, fun j hj => by
              obtain rfl : j = 0 := by simpa using hj
              exact hbm.cell 0 (by simp)⟩⟩ (show 1 ≤ 9223372036854775807 by decide) (HAq.out wq (HU.out.trans (hq.mono HU.out.size)))
            rw [hall] at this
            exact this
          clear hfg hgn hall HAq HFG
          go_wp2
          refine wp_region_K 18 (fun (w' : World) => w'.cell? ⟨w9.heap.size, 0, none⟩ = some (.int .i64 ga) ∧ w'.cell? ⟨w9.heap.size, 1, none⟩ = some (.string ⟨gk.toArray⟩) ∧ w'.cell? ⟨w9.heap.size, 2, none⟩ = some (.string ⟨gt.toArray⟩) ∧ w'.cell? ⟨w9.heap.size, 3, none⟩ = some (.bool gh)) (by kernel_rfl) ?_
          have hHeld : ((fun (w' : World) => w'.cell? ⟨w9.heap.size, 0, none⟩ = some (.int .i64 ga) ∧ w'.cell? ⟨w9.heap.size, 1, none⟩ = some (.string ⟨gk.toArray⟩) ∧ w'.cell? ⟨w9.heap.size, 2, none⟩ = some (.string ⟨gt.toArray⟩) ∧ w'.cell? ⟨w9.heap.size, 3, none⟩ = some (.bool gh))) (World.drew _) := HSS.out _ (below_drewN (Below.refl _ _) 1)
          refine wpAnyK_take0 0 (v := ?v1) rfl (by kernel_rfl) (fun _ _ _ h => h) (Or.inl ⟨by rfl, ?hy1⟩) (fun _ => hHeld) ?_
          case hy1 => (intro w hSw; go_simp; try with_reducible rfl)
          try simp only [Act.put, List.setIfInBounds_toArray, List.set_cons_zero, List.set_cons_succ]
          refine wpAnyK_take0 1 (v := ?v2) rfl (by kernel_rfl) (fun _ _ _ h => h) (Or.inl ⟨by rfl, ?hy2⟩) (fun _ => hHeld) ?_
          case hy2 => (intro w hSw; go_simp; try with_reducible rfl)
          try simp only [Act.put, List.setIfInBounds_toArray, List.set_cons_zero, List.set_cons_succ]
          refine wpAnyK_take0 2 (v := ?v3) rfl (by kernel_rfl) (fun _ _ _ h => h) (Or.inl ⟨by rfl, ?hy3⟩) (fun _ => hHeld) ?_
          case hy3 => (intro w hSw; go_simp; try with_reducible rfl)
          try simp only [Act.put, List.setIfInBounds_toArray, List.set_cons_zero, List.set_cons_succ]
          refine wpAnyK_take0 3 (v := ?v4) rfl (by kernel_rfl) (fun _ _ _ h => h) (Or.inl ⟨by rfl, ?hy4⟩) (fun _ => hHeld) ?_
          case hy4 => (intro w hSw; go_simp; try with_reducible rfl)
          try simp only [Act.put, List.setIfInBounds_toArray, List.set_cons_zero, List.set_cons_succ]
          refine wpAnyK_take 4 [5, 6, 10, 11, 18] (v := ?v5) rfl (by kernel_rfl) (fun _ _ _ h => h) (Or.inl ⟨by rfl, ?hy5⟩) hHeld ?_
          case hy5 => (intro w hSw; (try dsimp only at hSw); go_simp; try with_reducible rfl)
          try simp only [Act.put, List.setIfInBounds_toArray, List.set_cons_zero, List.set_cons_succ]
          refine wpAnyK_take0 5 (v := ?v6) rfl (by kernel_rfl) (fun _ _ _ h => h) (Or.inl ⟨by rfl, ?hy6⟩) (fun _ => hHeld) ?_
          case hy6 => (intro w hSw; go_simp; (try rw [q1]); try with_reducible rfl)
          try simp only [Act.put, List.setIfInBounds_toArray, List.set_cons_zero, List.set_cons_succ]
          refine wpAnyK_take0 6 (v := ?v7) rfl (by kernel_rfl) (fun _ _ _ h => h) (Or.inl ⟨by rfl, ?hy7⟩) (fun _ => hHeld) ?_
          case hy7 => (intro w hSw; go_simp; try with_reducible rfl)
          try simp only [Act.put, List.setIfInBounds_toArray, List.set_cons_zero, List.set_cons_succ]
          refine wpAnyK_take0 7 (v := ?v8) rfl (by kernel_rfl) (fun _ _ _ h => h) (Or.inl ⟨by rfl, ?hy8⟩) (fun _ => hHeld) ?_
          case hy8 => (intro w hSw; go_simp; try with_reducible rfl)
          try simp only [Act.put, List.setIfInBounds_toArray, List.set_cons_zero, List.set_cons_succ]
          refine wpAnyK_take 8 [9, 10, 11, 18] (v := ?v9) rfl (by kernel_rfl) (fun _ _ _ h => h) (Or.inl ⟨by rfl, ?hy9⟩) hHeld ?_
          case hy9 => (intro w hSw; (try dsimp only at hSw); go_simp; try with_reducible rfl)
          try simp only [Act.put, List.setIfInBounds_toArray, List.set_cons_zero, List.set_cons_succ]
          refine wpAnyK_take0 9 (v := ?v10) rfl (by kernel_rfl) (fun _ _ _ h => h) (Or.inl ⟨by rfl, ?hy10⟩) (fun _ => hHeld) ?_
          case hy10 => (intro w hSw; go_simp; (try rw [q12]); try with_reducible rfl)
          try simp only [Act.put, List.setIfInBounds_toArray, List.set_cons_zero, List.set_cons_succ]
          refine wpAnyK_take0 10 (v := ?v11) rfl (by kernel_rfl) (fun _ _ _ h => h) (Or.inl ⟨by rfl, ?hy11⟩) (fun _ => hHeld) ?_
          case hy11 => (intro w hSw; go_simp; try with_reducible rfl)
          try simp only [Act.put, List.setIfInBounds_toArray, List.set_cons_zero, List.set_cons_succ]
          refine wpAnyK_take0 11 (v := ?v12) rfl (by kernel_rfl) (fun _ _ _ h => h) (Or.inl ⟨by rfl, ?hy12⟩) (fun _ => hHeld) ?_
          case hy12 => (intro w hSw; go_simp; try with_reducible rfl)
          try simp only [Act.put, List.setIfInBounds_toArray, List.set_cons_zero, List.set_cons_succ]
          refine wpAnyK_take0 12 (v := ?v13) rfl (by kernel_rfl) (fun _ _ _ h => h) (Or.inl ⟨by rfl, ?hy13⟩) (fun _ => hHeld) ?_
          case hy13 => (intro w hSw; go_simp; try with_reducible rfl)
          try simp only [Act.put, List.setIfInBounds_toArray, List.set_cons_zero, List.set_cons_succ]
          refine wpAnyK_take 13 [14, 15, 16, 18] (v := ?v14) rfl (by kernel_rfl) (fun _ _ _ h => h) (Or.inl ⟨by rfl, ?hy14⟩) hHeld ?_
          case hy14 => (intro w hSw; (try dsimp only at hSw); go_simp; try with_reducible rfl)
          try simp only [Act.put, List.setIfInBounds_toArray, List.set_cons_zero, List.set_cons_succ]
          refine wpAnyK_take 17 [18] (v := ?v15) rfl (by kernel_rfl) (fun _ _ _ h => h) (Or.inl ⟨by rfl, ?hy15⟩) hHeld ?_
          case hy15 => (intro w hSw; (try dsimp only at hSw); go_simp; try with_reducible rfl)
          try simp only [Act.put, List.setIfInBounds_toArray, List.set_cons_zero, List.set_cons_succ]
          refine wpAnyK_step 14 rfl (by kernel_rfl) (fun K hK => ?_)
          go_simp
          refine (HGn.out _ (below_drewN (Below.refl _ _) 1)).mono ?_
          rintro e v3 ⟨rfl, rfl⟩
          dsimp only
          refine hK.out _ _ ?hk16 ?_
          case hk16 => exact fun _ => HSS.out _ (below_drewN (Below.refl _ _) 1)
          have hHeld : ((fun (w' : World) => w'.cell? ⟨w9.heap.size, 0, none⟩ = some (.int .i64 ga) ∧ w'.cell? ⟨w9.heap.size, 1, none⟩ = some (.string ⟨gk.toArray⟩) ∧ w'.cell? ⟨w9.heap.size, 2, none⟩ = some (.string ⟨gt.toArray⟩) ∧ w'.cell? ⟨w9.heap.size, 3, none⟩ = some (.bool gh))) _ := HSS.out _ (below_drewN (Below.refl _ _) 1)
          clear hK K
          try simp only [Act.put, List.setIfInBounds_toArray, List.set_cons_zero, List.set_cons_succ]
          refine wpAnyK_step 15 rfl (by kernel_rfl) (fun K9 hK => ?_)
          go_simp
          have HBB : Hid (Below v2.heap.size v2 ((v2.drewN 1).alloc (Obj.cells #[.string ⟨gn.toArray⟩] 9))) := (below_drewN (Below.refl _ _) 1).trans ((alloc_below _ _).mono (Nat.le_refl _))
          refine hK.out _ _ ?hk17 ?_
          case hk17 => exact fun _ => HSS.out _ HBB.out
          have hHeld : ((fun (w' : World) => w'.cell? ⟨w9.heap.size, 0, none⟩ = some (.int .i64 ga) ∧ w'.cell? ⟨w9.heap.size, 1, none⟩ = some (.string ⟨gk.toArray⟩) ∧ w'.cell? ⟨w9.heap.size, 2, none⟩ = some (.string ⟨gt.toArray⟩) ∧ w'.cell? ⟨w9.heap.size, 3, none⟩ = some (.bool gh))) _ := HSS.out _ HBB.out
          clear hK K9
          try simp only [Act.put, List.setIfInBounds_toArray, List.set_cons_zero, List.set_cons_succ]
          refine wpAnyK_take0 16 (v := ?v18) rfl (by kernel_rfl) (fun _ _ _ h => h) (Or.inl ⟨by rfl, ?hy18⟩) (fun _ => hHeld) ?_
          case hy18 => (intro w hSw; go_simp; try with_reducible rfl)
          try simp only [Act.put, List.setIfInBounds_toArray, List.set_cons_zero, List.set_cons_succ]
          refine wpAnyK_step 18 rfl (by kernel_rfl) (fun K hK => ?_)
          go_simp
          refine (HGa.out _ HBB.out rfl).mono ?_
          rintro e v4 ⟨rfl, hv4⟩
          have HBv : Hid (Below w.heap.size w v4) := HU.out.trans ((HBB.out.trans (hv4.mono HBB.out.size)).mono HU.out.size)
          clear hv4
          dsimp only
          refine hK.out _ _ ?hk19 ?_
          case hk19 => exact (fun h => nomatch (h.symm.trans (show _ = true by kernel_rfl)))
          clear hK K
          try simp only [Act.put, List.setIfInBounds_toArray, List.set_cons_zero, List.set_cons_succ]
          refine wpAnyK_take0 19 (v := ?v20) rfl (by kernel_rfl) (fun _ _ _ h => h) (Or.inl ⟨by rfl, ?hy20⟩) (fun h => nomatch (h.symm.trans (show _ = true by kernel_rfl))) ?_
          case hy20 => (intro w hSw; go_simp; try with_reducible rfl)
          try simp only [Act.put, List.setIfInBounds_toArray, List.set_cons_zero, List.set_cons_succ]
          refine wpAnyK_take0 20 (v := ?v21) rfl (by kernel_rfl) (fun _ _ _ h => h) (Or.inl ⟨by rfl, ?hy21⟩) (fun h => nomatch (h.symm.trans (show _ = true by kernel_rfl))) ?_
          case hy21 => (intro w hSw; go_simp; try with_reducible rfl)
          try simp only [Act.put, List.setIfInBounds_toArray, List.set_cons_zero, List.set_cons_succ]
          refine wpAnyK_take0 21 (v := ?v22) rfl (by kernel_rfl) (fun _ _ _ h => h) (Or.inl ⟨by rfl, ?hy22⟩) (fun h => nomatch (h.symm.trans (show _ = true by kernel_rfl))) ?_
          case hy22 => (intro w hSw; go_simp; try with_reducible rfl)
          try simp only [Act.put, List.setIfInBounds_toArray, List.set_cons_zero, List.set_cons_succ]
          refine wpAnyK_take0 22 (v := ?v23) rfl (by kernel_rfl) (fun _ _ _ h => h) (Or.inl ⟨by rfl, ?hy23⟩) (fun h => nomatch (h.symm.trans (show _ = true by kernel_rfl))) ?_
          case hy23 => (intro w hSw; go_simp; try with_reducible rfl)
          try simp only [Act.put, List.setIfInBounds_toArray, List.set_cons_zero, List.set_cons_succ]
          refine wpAnyK_done (by kernel_rfl) ?_ _
          go_wp2
          go_ret
          exact ⟨rfl, HBv.out⟩
        · have qc : ((gc : Int) == 0) = false := by rw [beq_eq_false_iff_ne]; omega
          have qc' : ((gc : Int) != 0) = true := by simp; omega
          clear hc HAq HFG HSS
          go_wp2
          refine wp_region_K 22 (fun (_ : World) => True) (by kernel_rfl) ?_
          refine wpAnyK_take0 0 (v := ?v0q) rfl (by kernel_rfl) (fun _ _ _ h => h) (Or.inl ⟨by rfl, ?hy0q⟩) (fun _ => trivial) ?_
          case hy0q => (intro w hSw; go_simp; (try rw [qc']); try with_reducible rfl)
          try simp only [Act.put, List.setIfInBounds_toArray, List.set_cons_zero, List.set_cons_succ]
          refine wpAnyK_take0 1 (v := ?v1q) rfl (by kernel_rfl) (fun _ _ _ h => h) (Or.inl ⟨by rfl, ?hy1q⟩) (fun _ => trivial) ?_
          case hy1q => (intro w hSw; go_simp; (try rw [qc']); try with_reducible rfl)
          try simp only [Act.put, List.setIfInBounds_toArray, List.set_cons_zero, List.set_cons_succ]
          refine wpAnyK_take0 2 (v := ?v2q) rfl (by kernel_rfl) (fun _ _ _ h => h) (Or.inl ⟨by rfl, ?hy2q⟩) (fun _ => trivial) ?_
          case hy2q => (intro w hSw; go_simp; (try rw [qc']); try with_reducible rfl)
          try simp only [Act.put, List.setIfInBounds_toArray, List.set_cons_zero, List.set_cons_succ]
          refine wpAnyK_take0 3 (v := undef) rfl (by kernel_rfl) (fun _ _ _ h => h) (Or.inr ⟨by rfl, rfl⟩) (fun _ => trivial) ?_
          try simp only [Act.put, List.setIfInBounds_toArray, List.set_cons_zero, List.set_cons_succ]
          refine wpAnyK_take0 4 (v := undef) rfl (by kernel_rfl) (fun _ _ _ h => h) (Or.inr ⟨by rfl, rfl⟩) (fun _ => trivial) ?_
          try simp only [Act.put, List.setIfInBounds_toArray, List.set_cons_zero, List.set_cons_succ]
          refine wpAnyK_take0 5 (v := undef) rfl (by kernel_rfl) (fun _ _ _ h => h) (Or.inr ⟨by rfl, rfl⟩) (fun _ => trivial) ?_
          try simp only [Act.put, List.setIfInBounds_toArray, List.set_cons_zero, List.set_cons_succ]
          refine wpAnyK_take0 6 (v := undef) rfl (by kernel_rfl) (fun _ _ _ h => h) (Or.inr ⟨by rfl, rfl⟩) (fun _ => trivial) ?_
          try simp only [Act.put, List.setIfInBounds_toArray, List.set_cons_zero, List.set_cons_succ]
          refine wpAnyK_take0 7 (v := undef) rfl (by kernel_rfl) (fun _ _ _ h => h) (Or.inr ⟨by rfl, rfl⟩) (fun _ => trivial) ?_
          try simp only [Act.put, List.setIfInBounds_toArray, List.set_cons_zero, List.set_cons_succ]
          refine wpAnyK_take0 8 (v := undef) rfl (by kernel_rfl) (fun _ _ _ h => h) (Or.inr ⟨by rfl, rfl⟩) (fun _ => trivial) ?_
          try simp only [Act.put, List.setIfInBounds_toArray, List.set_cons_zero, List.set_cons_succ]
          refine wpAnyK_take0 9 (v := undef) rfl (by kernel_rfl) (fun _ _ _ h => h) (Or.inr ⟨by rfl, rfl⟩) (fun _ => trivial) ?_
          try simp only [Act.put, List.setIfInBounds_toArray, List.set_cons_zero, List.set_cons_succ]
          refine wpAnyK_take0 10 (v := undef) rfl (by kernel_rfl) (fun _ _ _ h => h) (Or.inr ⟨by rfl, rfl⟩) (fun _ => trivial) ?_
          try simp only [Act.put, List.setIfInBounds_toArray, List.set_cons_zero, List.set_cons_succ]
          refine wpAnyK_take0 11 (v := undef) rfl (by kernel_rfl) (fun _ _ _ h => h) (Or.inr ⟨by rfl, rfl⟩) (fun _ => trivial) ?_
          try simp only [Act.put, List.setIfInBounds_toArray, List.set_cons_zero, List.set_cons_succ]
          refine wpAnyK_take0 12 (v := undef) rfl (by kernel_rfl) (fun _ _ _ h => h) (Or.inr ⟨by rfl, rfl⟩) (fun _ => trivial) ?_
          try simp only [Act.put, List.setIfInBounds_toArray, List.set_cons_zero, List.set_cons_succ]
          refine wpAnyK_take0 13 (v := undef) rfl (by kernel_rfl) (fun _ _ _ h => h) (Or.inr ⟨by rfl, rfl⟩) (fun _ => trivial) ?_
          try simp only [Act.put, List.setIfInBounds_toArray, List.set_cons_zero, List.set_cons_succ]
          refine wpAnyK_take0 17 (v := undef) rfl (by kernel_rfl) (fun _ _ _ h => h) (Or.inr ⟨by rfl, rfl⟩) (fun _ => trivial) ?_
          try simp only [Act.put, List.setIfInBounds_toArray, List.set_cons_zero, List.set_cons_succ]
          refine wpAnyK_step 14 rfl (by kernel_rfl) (fun K14 hK => ?_)
          go_simp
          refine hK.out _ _ (fun _ => trivial) ?_
          clear hK K14
          try simp only [Act.put, List.setIfInBounds_toArray, List.set_cons_zero, List.set_cons_succ]
          refine wpAnyK_step 15 rfl (by kernel_rfl) (fun K15 hK => ?_)
          go_simp
          refine hK.out _ _ (fun _ => trivial) ?_
          clear hK K15
          try simp only [Act.put, List.setIfInBounds_toArray, List.set_cons_zero, List.set_cons_succ]
          refine wpAnyK_take0 16 (v := undef) rfl (by kernel_rfl) (fun _ _ _ h => h) (Or.inr ⟨by rfl, rfl⟩) (fun _ => trivial) ?_
          try simp only [Act.put, List.setIfInBounds_toArray, List.set_cons_zero, List.set_cons_succ]
          refine wpAnyK_step 18 rfl (by kernel_rfl) (fun K18 hK => ?_)
          go_simp
          refine hK.out _ _ (fun _ => trivial) ?_
          clear hK K18
          try simp only [Act.put, List.setIfInBounds_toArray, List.set_cons_zero, List.set_cons_succ]
          refine wpAnyK_take0 19 (v := undef) rfl (by kernel_rfl) (fun _ _ _ h => h) (Or.inr ⟨by rfl, rfl⟩) (fun _ => trivial) ?_
          try simp only [Act.put, List.setIfInBounds_toArray, List.set_cons_zero, List.set_cons_succ]
          refine wpAnyK_take0 20 (v := undef) rfl (by kernel_rfl) (fun _ _ _ h => h) (Or.inr ⟨by rfl, rfl⟩) (fun _ => trivial) ?_
          try simp only [Act.put, List.setIfInBounds_toArray, List.set_cons_zero, List.set_cons_succ]
          refine wpAnyK_take0 21 (v := ?v21q) rfl (by kernel_rfl) (fun _ _ _ h => h) (Or.inl ⟨by rfl, ?hy21q⟩) (fun _ => trivial) ?_
          case hy21q => (intro w hSw; go_simp; (try rw [qc']); try with_reducible rfl)
          try simp only [Act.put, List.setIfInBounds_toArray, List.set_cons_zero, List.set_cons_succ]
          refine wpAnyK_step 22 rfl (by kernel_rfl) (fun K22 hK => ?_)
          go_simp
          refine hK.out _ _ (fun h => nomatch (h.symm.trans (show _ = true by kernel_rfl))) ?_
          clear hK K22
          try simp only [Act.put, List.setIfInBounds_toArray, List.set_cons_zero, List.set_cons_succ]
          refine wpAnyK_done (by kernel_rfl) ?_ _
          go_wp2
          go_ret
          exact ⟨rfl, below_drewN HU.out 1⟩
      · have qn : (nm == ([] : List UInt8)) = false := by simpa using hn0
        rw [decide_eq_false hnl]
        have CN10 := HNm.out wr hBr
        have n0 : wr.cell? ⟨w.heap.size + 1, 0, none⟩ = some (.int .i64 alg) := (HH.out wr hBr).cell 0 (by simp)
        have pr := (HP.out wr hBr).range
        have HBl : Hid (Below W.heap.size W wr) := hBr
        clear hBr
        go_wp2_with fail
        refine CN10.mono ?_
        clear CN10
        rintro e wn ⟨rfl, hwn⟩
        obtain rfl := hwn.symm
        obtain ⟨qb, hqb⟩ : ∃ qb, wr.heap.size = qb := ⟨_, rfl⟩
        obtain ⟨w3, hw3⟩ : ∃ w3 : World, wr.alloc (.cells (([.slice none 0 0, .string iss, .bool hi, .string aud, .bool ha, .string ⟨ty.toArray⟩, .bool wt, .int .i64 lee, .slice na nl nc] : List Value).toArray) 24) = w3 := ⟨_, rfl⟩
        have HQ3 : Hid (Bl 24 w3 qb [.slice none 0 0, .string iss, .bool hi, .string aud, .bool ha, .string ⟨ty.toArray⟩, .bool wt, .int .i64 lee, .slice na nl nc]) := by rw [← hw3, ← hqb]; exact alloc_bl _ _ _
        have hB3 : Below W.heap.size W w3 := by rw [← hw3]; exact HBl.out.trans ((alloc_below _ _).mono HBl.out.size)
        have HW3 : Hid (wr.alloc (.cells (([.slice none 0 0, .string iss, .bool hi, .string aud, .bool ha, .string ⟨ty.toArray⟩, .bool wt, .int .i64 lee, .slice na nl nc] : List Value).toArray) 24) = w3) := hw3
        have HB3 : Hid (Below W.heap.size W w3) := hB3
        clear hw3 hB3
        go_upto_region 14 with (refine wpList_load_mid rfl 24 (.tmp 4) rfl w.heap.size 0 rfl [.slice ao l.length cap, .string iss, .bool hi, .string aud, .bool ha, .string ⟨ty.toArray⟩, .bool wt, .int .i64 lee, .slice na nl nc] _ pr Tryz.underlying24 rfl hcp ?_)
        rw [HW3.out]
        clear HW3 pr n0
        have s0 : w3.cell? ⟨qb, 0, none⟩ = some (.slice none 0 0) := HQ3.out.cell 0 (by simp)
        have hTm : TR (w3.alloc (.cells #[.string ⟨more.toArray⟩] 9)) (.slice (some ⟨w3.heap.size, 0, none⟩) 1 1) [more] (some ⟨w3.heap.size, 0, none⟩) 1 := by
          have hbm : Bl 9 (w3.alloc (.cells #[.string ⟨more.toArray⟩] 9)) w3.heap.size [.string ⟨more.toArray⟩] := alloc_bl _ _ _
          refine ⟨rfl, Nat.le_refl _, .inr ⟨w3.heap.size, 0, rfl, hbm.lt, fun j hj => ?_⟩⟩
          obtain rfl : j = 0 := by simpa using hj
          exact hbm.cell 0 (by simp)
        have HQm : Hid (Bl 24 (w3.alloc (.cells #[.string ⟨more.toArray⟩] 9)) qb [.slice none 0 0, .string iss, .bool hi, .string aud, .bool ha, .string ⟨ty.toArray⟩, .bool wt, .int .i64 lee, .slice na nl nc]) := HQ3.out.below (alloc_below _ _) HQ3.out.lt
        have HBm : Hid (Below W.heap.size W (w3.alloc (.cells #[.string ⟨more.toArray⟩] 9))) := HB3.out.trans ((alloc_below _ _).mono HB3.out.size)
        go_upto_region 15 with (at_builtin; refine append_txt (wr := w3.alloc (.cells #[.string ⟨more.toArray⟩] 9)) rfl (.tmp 51) (.tmp 53) rfl W.heap.size (.slice none 0 0) [] rfl (World.ownsRow_nil _ _ _ _) (some ⟨w3.heap.size, 0, none⟩) 1 [more] rfl hTm (fun h => by cases h) (show 0 + 1 ≤ 1000000000 by decide) HBm.out.size ?_; intro v1 w4 ho1 hg1; obtain ⟨a1, c1, rfl, _, _⟩ := own_slice ho1; have HQ4 : Hid (Bl 24 w4 qb [.slice none 0 0, .string iss, .bool hi, .string aud, .bool ha, .string ⟨ty.toArray⟩, .bool wt, .int .i64 lee, .slice na nl nc]) := bl_grown HQm.out hg1 (fun e => by cases e); have HB4 : Hid (Below W.heap.size W w4) := Below.grown HBm.out hg1 HBm.out.size (fun k e => by cases e); have HO4 : Hid (OT W.heap.size w4 (.slice a1 1 c1) [more]) := ho1; have s1 : w4.cell? ⟨qb, 0, none⟩ = some (.slice none 0 0) := HQ4.out.cell 0 (by simp); have f1 := HQ4.out.frozen 0; clear ho1 hg1)
        obtain ⟨w5, hw5⟩ : ∃ w5 : World, w4.setCell ⟨qb, 0, none⟩ (.slice a1 1 c1) = w5 := ⟨_, rfl⟩
        rw [hw5]
        have hqW : W.heap.size ≤ qb := by have := HBl.out.size; omega
        have HQ5 : Hid (Bl 24 w5 qb [.slice a1 1 c1, .string iss, .bool hi, .string aud, .bool ha, .string ⟨ty.toArray⟩, .bool wt, .int .i64 lee, .slice na nl nc]) := by rw [← hw5]; exact HQ4.out.set 0 _
        have HB5 : Hid (Below W.heap.size W w5) := by rw [← hw5]; exact Below.setCell HB4.out hqW _
        have HO5 : Hid (OT W.heap.size w5 (.slice a1 1 c1) [more]) := by
          have ha := block_apart HO4.out HQ4.out (by decide)
          rw [← hw5]
          exact own_keep HO4.out fun g hg => heap_setCell_other w4 _ g _ (fun e => ha (by rw [hg]; exact congrArg some e))
        have s5 : w5.cell? ⟨qb, 0, none⟩ = some (.slice a1 1 c1) := HQ5.out.cell 0 (by simp)
        have p5 : w5.cell? ⟨w.heap.size, 0, none⟩ = some (.slice ao l.length cap) := (HP.out w5 HB5.out).cell 0 (by simp)
        clear hw5 HQ4 HB4 HO4 s1 f1 HQm HBm hTm s0 HQ3 HB3
        go_upto_region 16 with (at_builtin; refine append_txt (wr := w5) rfl (.tmp 57) (.tmp 59) rfl W.heap.size (.slice a1 1 c1) [more] rfl HO5.out ao cap l rfl (HTR.out w5 (HB.out w5 HB5.out)) hna (by simp only [List.length_cons, List.length_nil]; omega) HB5.out.size ?_; intro v2 w6 ho2 hg2; obtain ⟨a2, c2, e2, _, _⟩ := own_slice ho2; rw [show ([more] ++ l).length = l.length + 1 by simp] at e2; subst e2; have ha2 := block_apart HO5.out HQ5.out (by decide); have HQ6 : Hid (Bl 24 w6 qb [.slice a1 1 c1, .string iss, .bool hi, .string aud, .bool ha, .string ⟨ty.toArray⟩, .bool wt, .int .i64 lee, .slice na nl nc]) := bl_grown HQ5.out hg2 ha2; have HB6 : Hid (Below W.heap.size W w6) := Below.grown HB5.out hg2 HB5.out.size (own_block HO5.out); have HO6 : Hid (OT W.heap.size w6 (.slice a2 (l.length + 1) c2) (more :: l)) := ho2; have s6 : w6.cell? ⟨qb, 0, none⟩ = some (.slice a1 1 c1) := HQ6.out.cell 0 (by simp); have f6 := HQ6.out.frozen 0; clear ho2 hg2 ha2)
        obtain ⟨w7, hw7⟩ : ∃ w7 : World, w6.setCell ⟨qb, 0, none⟩ (.slice a2 (l.length + 1) c2) = w7 := ⟨_, rfl⟩
        rw [hw7]
        have HQ7 : Hid (Bl 24 w7 qb [.slice a2 (l.length + 1) c2, .string iss, .bool hi, .string aud, .bool ha, .string ⟨ty.toArray⟩, .bool wt, .int .i64 lee, .slice na nl nc]) := by rw [← hw7]; exact HQ6.out.set 0 _
        have HB7 : Hid (Below W.heap.size W w7) := by rw [← hw7]; exact Below.setCell HB6.out hqW _
        have HO7 : Hid (OT W.heap.size w7 (.slice a2 (l.length + 1) c2) (more :: l)) := by
          have ha := block_apart HO6.out HQ6.out (by decide)
          rw [← hw7]
          exact own_keep HO6.out fun g hg => heap_setCell_other w6 _ g _ (fun e => ha (by rw [hg]; exact congrArg some e))
        have hT7 : TR w7 (.slice a2 (l.length + 1) c2) (more :: l) a2 c2 := by
          obtain ⟨bo, bc, e, ht⟩ := HO7.out.tr
          cases e
          exact ht
        have C7 := CA2.out a2 c2 w7 (HB.out w7 HB7.out) hT7
        have r7 := HQ7.out.range
        have h7 := (HH.out w7 HB7.out).range
        have hc7 : (Tryz.prog.info? 24).map (·.size) = some ([.slice a2 (l.length + 1) c2, .string iss, .bool hi, .string aud, .bool ha, .string ⟨ty.toArray⟩, .bool wt, .int .i64 lee, .slice na nl nc] : List Value).length := by kernel_rfl
        clear hw7 HQ6 HB6 HO6 HO5 HQ5 HB5 s5 p5 s6 f6 HQ7 HO7 hT7 CA2
        go_wp2_with (first | (refine wpList_load_mid rfl 24 (.tmp 12) rfl qb 0 rfl [.slice a2 (l.length + 1) c2, .string iss, .bool hi, .string aud, .bool ha, .string ⟨ty.toArray⟩, .bool wt, .int .i64 lee, .slice na nl nc] _ r7 Tryz.underlying24 rfl hc7 ?_) | (refine wpList_load_mid rfl 27 (.tmp 6) rfl (w.heap.size + 1) 0 rfl [.int .i64 alg, .string ⟨kid.toArray⟩, .string ⟨typ.toArray⟩, .bool has] _ h7 Tryz.underlying27 rfl hch ?_))
        refine C7.mono ?_
        clear C7 r7 h7
        rintro e w8 ⟨rfl, hw8⟩
        have HB8 : Hid (Below w.heap.size w w8) := HB.out w8 (HB7.out.trans (hw8.mono HB7.out.size))
        have C8 := HPt.out w8 HB8.out
        clear hw8 HPt HB7
        go_wp2_with fail
        refine C8.mono ?_
        clear C8
        rintro e w9 ⟨rfl, hw9⟩
        have HB9 : Hid (Below w.heap.size w w9) := HB8.out.trans (hw9.mono HB8.out.size)
        clear hw9
        obtain ⟨v2, hv2⟩ : ∃ v2 : World, w9.alloc (.cells (([.int .i64 ga, .string ⟨gk.toArray⟩, .string ⟨gt.toArray⟩, .bool gh] : List Value).toArray) 27) = v2 := ⟨_, rfl⟩
        have hbg : Bl 27 v2 w9.heap.size [.int .i64 ga, .string ⟨gk.toArray⟩, .string ⟨gt.toArray⟩, .bool gh] := by rw [← hv2]; exact alloc_bl _ _ _
        have HU : Hid (Below w.heap.size w v2) := by rw [← hv2]; exact HB9.out.trans ((alloc_below _ _).mono HB9.out.size)
        have HSS : Hid (∀ wq, Below v2.heap.size v2 wq → (fun (w' : World) => w'.cell? ⟨w9.heap.size, 0, none⟩ = some (.int .i64 ga) ∧ w'.cell? ⟨w9.heap.size, 1, none⟩ = some (.string ⟨gk.toArray⟩) ∧ w'.cell? ⟨w9.heap.size, 2, none⟩ = some (.string ⟨gt.toArray⟩) ∧ w'.cell? ⟨w9.heap.size, 3, none⟩ = some (.bool gh)) wq) := fun wq hq => by
          have := hbg.below hq hbg.lt
          exact ⟨this.cell 0 (by simp), this.cell 1 (by simp), this.cell 2 (by simp), this.cell 3 (by simp)⟩
        clear hbg
        by_cases hc : gc = 0
        · subst hc
          have hfg := HFG.out rfl
          have q1 : decide (ga ≥ 1) = true := decide_eq_true hfg.1
          have q12 : decide (ga ≤ 12) = true := decide_eq_true hfg.2
          obtain ⟨gn, hgn⟩ : ∃ gn, nameF' ga = gn := ⟨_, rfl⟩
          have hall : allowF [gn] false [] ⟨ga, gk, gt, gh⟩ = 0 := by
            unfold allowF
            have hne : nameF' ga ≠ [] := name_ne hfg.1 hfg.2
            rw [hgn] at hne ⊢
            simp [hne]
          have HGn : Hid (∀ wq, Below v2.heap.size v2 wq → Calls Tryz.prog 10 #[.int .i64 ga] wq fun e w' => e = .returned (.string ⟨gn.toArray⟩) ∧ w' = wq) := fun wq hq => by
            have := kname_any ga wq (HAq.out wq (HU.out.trans (hq.mono HU.out.size)))
            rwa [hgn] at this
          have HGa : Hid (∀ wq, Below v2.heap.size v2 wq → wq = ((v2.drewN 1).alloc (Obj.cells #[.string ⟨gn.toArray⟩] 9)) → Calls Tryz.prog 9 #[.agg #[.slice (some ⟨v2.heap.size, 0, none⟩) 1 1, .string { data := #[] }, .bool false, .string { data := #[] }, .bool false, .string { data := #[] }, .bool false, .int .i64 0, .slice none 0 0], .agg #[.int .i64 ga, .string ⟨gk.toArray⟩, .string ⟨gt.toArray⟩, .bool gh]] wq fun e w' => e = .returned (.int .i64 0) ∧ Below wq.heap.size wq w') := fun wq hq ew => by
            have hbm : Bl 9 wq v2.heap.size [.string ⟨gn.toArray⟩] := by rw [ew]; exact alloc_bl (v2.drewN 1) _ _
            have := allow_any (some ⟨v2.heap.size, 0, none⟩) 1 [gn] ⟨#[]⟩ false ⟨#[]⟩ false [] false 0 (.slice none 0 0) ⟨ga, gk, gt, gh⟩ wq ⟨rfl, Nat.le_refl _, .inr ⟨v2.heap.size, 0, rfl, hbm.lt, fun j hj => by
              obtain rfl : j = 0 := by simpa using hj
              exact hbm.cell 0 (by simp)⟩⟩ (show 1 ≤ 9223372036854775807 by decide) (HAq.out wq (HU.out.trans (hq.mono HU.out.size)))
            rw [hall] at this
            exact this
          clear hfg hgn hall HAq HFG
          go_wp2
          refine wp_region_K 18 (fun (w' : World) => w'.cell? ⟨w9.heap.size, 0, none⟩ = some (.int .i64 ga) ∧ w'.cell? ⟨w9.heap.size, 1, none⟩ = some (.string ⟨gk.toArray⟩) ∧ w'.cell? ⟨w9.heap.size, 2, none⟩ = some (.string ⟨gt.toArray⟩) ∧ w'.cell? ⟨w9.heap.size, 3, none⟩ = some (.bool gh)) (by kernel_rfl) ?_
          have hHeld : ((fun (w' : World) => w'.cell? ⟨w9.heap.size, 0, none⟩ = some (.int .i64 ga) ∧ w'.cell? ⟨w9.heap.size, 1, none⟩ = some (.string ⟨gk.toArray⟩) ∧ w'.cell? ⟨w9.heap.size, 2, none⟩ = some (.string ⟨gt.toArray⟩) ∧ w'.cell? ⟨w9.heap.size, 3, none⟩ = some (.bool gh))) (World.drew _) := HSS.out _ (below_drewN (Below.refl _ _) 1)
          refine wpAnyK_take0 0 (v := ?v24) rfl (by kernel_rfl) (fun _ _ _ h => h) (Or.inl ⟨by rfl, ?hy24⟩) (fun _ => hHeld) ?_
          case hy24 => (intro w hSw; go_simp; try with_reducible rfl)
          try simp only [Act.put, List.setIfInBounds_toArray, List.set_cons_zero, List.set_cons_succ]
          refine wpAnyK_take0 1 (v := ?v25) rfl (by kernel_rfl) (fun _ _ _ h => h) (Or.inl ⟨by rfl, ?hy25⟩) (fun _ => hHeld) ?_
          case hy25 => (intro w hSw; go_simp; try with_reducible rfl)
          try simp only [Act.put, List.setIfInBounds_toArray, List.set_cons_zero, List.set_cons_succ]
          refine wpAnyK_take0 2 (v := ?v26) rfl (by kernel_rfl) (fun _ _ _ h => h) (Or.inl ⟨by rfl, ?hy26⟩) (fun _ => hHeld) ?_
          case hy26 => (intro w hSw; go_simp; try with_reducible rfl)
          try simp only [Act.put, List.setIfInBounds_toArray, List.set_cons_zero, List.set_cons_succ]
          refine wpAnyK_take0 3 (v := ?v27) rfl (by kernel_rfl) (fun _ _ _ h => h) (Or.inl ⟨by rfl, ?hy27⟩) (fun _ => hHeld) ?_
          case hy27 => (intro w hSw; go_simp; try with_reducible rfl)
          try simp only [Act.put, List.setIfInBounds_toArray, List.set_cons_zero, List.set_cons_succ]
          refine wpAnyK_take 4 [5, 6, 10, 11, 18] (v := ?v28) rfl (by kernel_rfl) (fun _ _ _ h => h) (Or.inl ⟨by rfl, ?hy28⟩) hHeld ?_
          case hy28 => (intro w hSw; (try dsimp only at hSw); go_simp; try with_reducible rfl)
          try simp only [Act.put, List.setIfInBounds_toArray, List.set_cons_zero, List.set_cons_succ]
          refine wpAnyK_take0 5 (v := ?v29) rfl (by kernel_rfl) (fun _ _ _ h => h) (Or.inl ⟨by rfl, ?hy29⟩) (fun _ => hHeld) ?_
          case hy29 => (intro w hSw; go_simp; (try rw [q1]); try with_reducible rfl)
          try simp only [Act.put, List.setIfInBounds_toArray, List.set_cons_zero, List.set_cons_succ]
          refine wpAnyK_take0 6 (v := ?v30) rfl (by kernel_rfl) (fun _ _ _ h => h) (Or.inl ⟨by rfl, ?hy30⟩) (fun _ => hHeld) ?_
          case hy30 => (intro w hSw; go_simp; try with_reducible rfl)
          try simp only [Act.put, List.setIfInBounds_toArray, List.set_cons_zero, List.set_cons_succ]
          refine wpAnyK_take0 7 (v := ?v31) rfl (by kernel_rfl) (fun _ _ _ h => h) (Or.inl ⟨by rfl, ?hy31⟩) (fun _ => hHeld) ?_
          case hy31 => (intro w hSw; go_simp; try with_reducible rfl)
          try simp only [Act.put, List.setIfInBounds_toArray, List.set_cons_zero, List.set_cons_succ]
          refine wpAnyK_take 8 [9, 10, 11, 18] (v := ?v32) rfl (by kernel_rfl) (fun _ _ _ h => h) (Or.inl ⟨by rfl, ?hy32⟩) hHeld ?_
          case hy32 => (intro w hSw; (try dsimp only at hSw); go_simp; try with_reducible rfl)
          try simp only [Act.put, List.setIfInBounds_toArray, List.set_cons_zero, List.set_cons_succ]
          refine wpAnyK_take0 9 (v := ?v33) rfl (by kernel_rfl) (fun _ _ _ h => h) (Or.inl ⟨by rfl, ?hy33⟩) (fun _ => hHeld) ?_
          case hy33 => (intro w hSw; go_simp; (try rw [q12]); try with_reducible rfl)
          try simp only [Act.put, List.setIfInBounds_toArray, List.set_cons_zero, List.set_cons_succ]
          refine wpAnyK_take0 10 (v := ?v34) rfl (by kernel_rfl) (fun _ _ _ h => h) (Or.inl ⟨by rfl, ?hy34⟩) (fun _ => hHeld) ?_
          case hy34 => (intro w hSw; go_simp; try with_reducible rfl)
          try simp only [Act.put, List.setIfInBounds_toArray, List.set_cons_zero, List.set_cons_succ]
          refine wpAnyK_take0 11 (v := ?v35) rfl (by kernel_rfl) (fun _ _ _ h => h) (Or.inl ⟨by rfl, ?hy35⟩) (fun _ => hHeld) ?_
          case hy35 => (intro w hSw; go_simp; try with_reducible rfl)
          try simp only [Act.put, List.setIfInBounds_toArray, List.set_cons_zero, List.set_cons_succ]
          refine wpAnyK_take0 12 (v := ?v36) rfl (by kernel_rfl) (fun _ _ _ h => h) (Or.inl ⟨by rfl, ?hy36⟩) (fun _ => hHeld) ?_
          case hy36 => (intro w hSw; go_simp; try with_reducible rfl)
          try simp only [Act.put, List.setIfInBounds_toArray, List.set_cons_zero, List.set_cons_succ]
          refine wpAnyK_take 13 [14, 15, 16, 18] (v := ?v37) rfl (by kernel_rfl) (fun _ _ _ h => h) (Or.inl ⟨by rfl, ?hy37⟩) hHeld ?_
          case hy37 => (intro w hSw; (try dsimp only at hSw); go_simp; try with_reducible rfl)
          try simp only [Act.put, List.setIfInBounds_toArray, List.set_cons_zero, List.set_cons_succ]
          refine wpAnyK_take 17 [18] (v := ?v38) rfl (by kernel_rfl) (fun _ _ _ h => h) (Or.inl ⟨by rfl, ?hy38⟩) hHeld ?_
          case hy38 => (intro w hSw; (try dsimp only at hSw); go_simp; try with_reducible rfl)
          try simp only [Act.put, List.setIfInBounds_toArray, List.set_cons_zero, List.set_cons_succ]
          refine wpAnyK_step 14 rfl (by kernel_rfl) (fun K hK => ?_)
          go_simp
          refine (HGn.out _ (below_drewN (Below.refl _ _) 1)).mono ?_
          rintro e v3 ⟨rfl, rfl⟩
          dsimp only
          refine hK.out _ _ ?hk39 ?_
          case hk39 => exact fun _ => HSS.out _ (below_drewN (Below.refl _ _) 1)
          have hHeld : ((fun (w' : World) => w'.cell? ⟨w9.heap.size, 0, none⟩ = some (.int .i64 ga) ∧ w'.cell? ⟨w9.heap.size, 1, none⟩ = some (.string ⟨gk.toArray⟩) ∧ w'.cell? ⟨w9.heap.size, 2, none⟩ = some (.string ⟨gt.toArray⟩) ∧ w'.cell? ⟨w9.heap.size, 3, none⟩ = some (.bool gh))) _ := HSS.out _ (below_drewN (Below.refl _ _) 1)
          clear hK K
          try simp only [Act.put, List.setIfInBounds_toArray, List.set_cons_zero, List.set_cons_succ]
          refine wpAnyK_step 15 rfl (by kernel_rfl) (fun K9 hK => ?_)
          go_simp
          have HBB : Hid (Below v2.heap.size v2 ((v2.drewN 1).alloc (Obj.cells #[.string ⟨gn.toArray⟩] 9))) := (below_drewN (Below.refl _ _) 1).trans ((alloc_below _ _).mono (Nat.le_refl _))
          refine hK.out _ _ ?hk40 ?_
          case hk40 => exact fun _ => HSS.out _ HBB.out
          have hHeld : ((fun (w' : World) => w'.cell? ⟨w9.heap.size, 0, none⟩ = some (.int .i64 ga) ∧ w'.cell? ⟨w9.heap.size, 1, none⟩ = some (.string ⟨gk.toArray⟩) ∧ w'.cell? ⟨w9.heap.size, 2, none⟩ = some (.string ⟨gt.toArray⟩) ∧ w'.cell? ⟨w9.heap.size, 3, none⟩ = some (.bool gh))) _ := HSS.out _ HBB.out
          clear hK K9
          try simp only [Act.put, List.setIfInBounds_toArray, List.set_cons_zero, List.set_cons_succ]
          refine wpAnyK_take0 16 (v := ?v41) rfl (by kernel_rfl) (fun _ _ _ h => h) (Or.inl ⟨by rfl, ?hy41⟩) (fun _ => hHeld) ?_
          case hy41 => (intro w hSw; go_simp; try with_reducible rfl)
          try simp only [Act.put, List.setIfInBounds_toArray, List.set_cons_zero, List.set_cons_succ]
          refine wpAnyK_step 18 rfl (by kernel_rfl) (fun K hK => ?_)
          go_simp
          refine (HGa.out _ HBB.out rfl).mono ?_
          rintro e v4 ⟨rfl, hv4⟩
          have HBv : Hid (Below w.heap.size w v4) := HU.out.trans ((HBB.out.trans (hv4.mono HBB.out.size)).mono HU.out.size)
          clear hv4
          dsimp only
          refine hK.out _ _ ?hk42 ?_
          case hk42 => exact (fun h => nomatch (h.symm.trans (show _ = true by kernel_rfl)))
          clear hK K
          try simp only [Act.put, List.setIfInBounds_toArray, List.set_cons_zero, List.set_cons_succ]
          refine wpAnyK_take0 19 (v := ?v43) rfl (by kernel_rfl) (fun _ _ _ h => h) (Or.inl ⟨by rfl, ?hy43⟩) (fun h => nomatch (h.symm.trans (show _ = true by kernel_rfl))) ?_
          case hy43 => (intro w hSw; go_simp; try with_reducible rfl)
          try simp only [Act.put, List.setIfInBounds_toArray, List.set_cons_zero, List.set_cons_succ]
          refine wpAnyK_take0 20 (v := ?v44) rfl (by kernel_rfl) (fun _ _ _ h => h) (Or.inl ⟨by rfl, ?hy44⟩) (fun h => nomatch (h.symm.trans (show _ = true by kernel_rfl))) ?_
          case hy44 => (intro w hSw; go_simp; try with_reducible rfl)
          try simp only [Act.put, List.setIfInBounds_toArray, List.set_cons_zero, List.set_cons_succ]
          refine wpAnyK_take0 21 (v := ?v45) rfl (by kernel_rfl) (fun _ _ _ h => h) (Or.inl ⟨by rfl, ?hy45⟩) (fun h => nomatch (h.symm.trans (show _ = true by kernel_rfl))) ?_
          case hy45 => (intro w hSw; go_simp; try with_reducible rfl)
          try simp only [Act.put, List.setIfInBounds_toArray, List.set_cons_zero, List.set_cons_succ]
          refine wpAnyK_take0 22 (v := ?v46) rfl (by kernel_rfl) (fun _ _ _ h => h) (Or.inl ⟨by rfl, ?hy46⟩) (fun h => nomatch (h.symm.trans (show _ = true by kernel_rfl))) ?_
          case hy46 => (intro w hSw; go_simp; try with_reducible rfl)
          try simp only [Act.put, List.setIfInBounds_toArray, List.set_cons_zero, List.set_cons_succ]
          refine wpAnyK_done (by kernel_rfl) ?_ _
          go_wp2
          go_ret
          exact ⟨rfl, HBv.out⟩
        · have qc : ((gc : Int) == 0) = false := by rw [beq_eq_false_iff_ne]; omega
          have qc' : ((gc : Int) != 0) = true := by simp; omega
          clear hc HAq HFG HSS
          go_wp2
          refine wp_region_K 22 (fun (_ : World) => True) (by kernel_rfl) ?_
          refine wpAnyK_take0 0 (v := ?v0q) rfl (by kernel_rfl) (fun _ _ _ h => h) (Or.inl ⟨by rfl, ?hy0q⟩) (fun _ => trivial) ?_
          case hy0q => (intro w hSw; go_simp; (try rw [qc']); try with_reducible rfl)
          try simp only [Act.put, List.setIfInBounds_toArray, List.set_cons_zero, List.set_cons_succ]
          refine wpAnyK_take0 1 (v := ?v1q) rfl (by kernel_rfl) (fun _ _ _ h => h) (Or.inl ⟨by rfl, ?hy1q⟩) (fun _ => trivial) ?_
          case hy1q => (intro w hSw; go_simp; (try rw [qc']); try with_reducible rfl)
          try simp only [Act.put, List.setIfInBounds_toArray, List.set_cons_zero, List.set_cons_succ]
          refine wpAnyK_take0 2 (v := ?v2q) rfl (by kernel_rfl) (fun _ _ _ h => h) (Or.inl ⟨by rfl, ?hy2q⟩) (fun _ => trivial) ?_
          case hy2q => (intro w hSw; go_simp; (try rw [qc']); try with_reducible rfl)
          try simp only [Act.put, List.setIfInBounds_toArray, List.set_cons_zero, List.set_cons_succ]
          refine wpAnyK_take0 3 (v := undef) rfl (by kernel_rfl) (fun _ _ _ h => h) (Or.inr ⟨by rfl, rfl⟩) (fun _ => trivial) ?_
          try simp only [Act.put, List.setIfInBounds_toArray, List.set_cons_zero, List.set_cons_succ]
          refine wpAnyK_take0 4 (v := undef) rfl (by kernel_rfl) (fun _ _ _ h => h) (Or.inr ⟨by rfl, rfl⟩) (fun _ => trivial) ?_
          try simp only [Act.put, List.setIfInBounds_toArray, List.set_cons_zero, List.set_cons_succ]
          refine wpAnyK_take0 5 (v := undef) rfl (by kernel_rfl) (fun _ _ _ h => h) (Or.inr ⟨by rfl, rfl⟩) (fun _ => trivial) ?_
          try simp only [Act.put, List.setIfInBounds_toArray, List.set_cons_zero, List.set_cons_succ]
          refine wpAnyK_take0 6 (v := undef) rfl (by kernel_rfl) (fun _ _ _ h => h) (Or.inr ⟨by rfl, rfl⟩) (fun _ => trivial) ?_
          try simp only [Act.put, List.setIfInBounds_toArray, List.set_cons_zero, List.set_cons_succ]
          refine wpAnyK_take0 7 (v := undef) rfl (by kernel_rfl) (fun _ _ _ h => h) (Or.inr ⟨by rfl, rfl⟩) (fun _ => trivial) ?_
          try simp only [Act.put, List.setIfInBounds_toArray, List.set_cons_zero, List.set_cons_succ]
          refine wpAnyK_take0 8 (v := undef) rfl (by kernel_rfl) (fun _ _ _ h => h) (Or.inr ⟨by rfl, rfl⟩) (fun _ => trivial) ?_
          try simp only [Act.put, List.setIfInBounds_toArray, List.set_cons_zero, List.set_cons_succ]
          refine wpAnyK_take0 9 (v := undef) rfl (by kernel_rfl) (fun _ _ _ h => h) (Or.inr ⟨by rfl, rfl⟩) (fun _ => trivial) ?_
          try simp only [Act.put, List.setIfInBounds_toArray, List.set_cons_zero, List.set_cons_succ]
          refine wpAnyK_take0 10 (v := undef) rfl (by kernel_rfl) (fun _ _ _ h => h) (Or.inr ⟨by rfl, rfl⟩) (fun _ => trivial) ?_
          try simp only [Act.put, List.setIfInBounds_toArray, List.set_cons_zero, List.set_cons_succ]
          refine wpAnyK_take0 11 (v := undef) rfl (by kernel_rfl) (fun _ _ _ h => h) (Or.inr ⟨by rfl, rfl⟩) (fun _ => trivial) ?_
          try simp only [Act.put, List.setIfInBounds_toArray, List.set_cons_zero, List.set_cons_succ]
          refine wpAnyK_take0 12 (v := undef) rfl (by kernel_rfl) (fun _ _ _ h => h) (Or.inr ⟨by rfl, rfl⟩) (fun _ => trivial) ?_
          try simp only [Act.put, List.setIfInBounds_toArray, List.set_cons_zero, List.set_cons_succ]
          refine wpAnyK_take0 13 (v := undef) rfl (by kernel_rfl) (fun _ _ _ h => h) (Or.inr ⟨by rfl, rfl⟩) (fun _ => trivial) ?_
          try simp only [Act.put, List.setIfInBounds_toArray, List.set_cons_zero, List.set_cons_succ]
          refine wpAnyK_take0 17 (v := undef) rfl (by kernel_rfl) (fun _ _ _ h => h) (Or.inr ⟨by rfl, rfl⟩) (fun _ => trivial) ?_
          try simp only [Act.put, List.setIfInBounds_toArray, List.set_cons_zero, List.set_cons_succ]
          refine wpAnyK_step 14 rfl (by kernel_rfl) (fun K14 hK => ?_)
          go_simp
          refine hK.out _ _ (fun _ => trivial) ?_
          clear hK K14
          try simp only [Act.put, List.setIfInBounds_toArray, List.set_cons_zero, List.set_cons_succ]
          refine wpAnyK_step 15 rfl (by kernel_rfl) (fun K15 hK => ?_)
          go_simp
          refine hK.out _ _ (fun _ => trivial) ?_
          clear hK K15
          try simp only [Act.put, List.setIfInBounds_toArray, List.set_cons_zero, List.set_cons_succ]
          refine wpAnyK_take0 16 (v := undef) rfl (by kernel_rfl) (fun _ _ _ h => h) (Or.inr ⟨by rfl, rfl⟩) (fun _ => trivial) ?_
          try simp only [Act.put, List.setIfInBounds_toArray, List.set_cons_zero, List.set_cons_succ]
          refine wpAnyK_step 18 rfl (by kernel_rfl) (fun K18 hK => ?_)
          go_simp
          refine hK.out _ _ (fun _ => trivial) ?_
          clear hK K18
          try simp only [Act.put, List.setIfInBounds_toArray, List.set_cons_zero, List.set_cons_succ]
          refine wpAnyK_take0 19 (v := undef) rfl (by kernel_rfl) (fun _ _ _ h => h) (Or.inr ⟨by rfl, rfl⟩) (fun _ => trivial) ?_
          try simp only [Act.put, List.setIfInBounds_toArray, List.set_cons_zero, List.set_cons_succ]
          refine wpAnyK_take0 20 (v := undef) rfl (by kernel_rfl) (fun _ _ _ h => h) (Or.inr ⟨by rfl, rfl⟩) (fun _ => trivial) ?_
          try simp only [Act.put, List.setIfInBounds_toArray, List.set_cons_zero, List.set_cons_succ]
          refine wpAnyK_take0 21 (v := ?v21q) rfl (by kernel_rfl) (fun _ _ _ h => h) (Or.inl ⟨by rfl, ?hy21q⟩) (fun _ => trivial) ?_
          case hy21q => (intro w hSw; go_simp; (try rw [qc']); try with_reducible rfl)
          try simp only [Act.put, List.setIfInBounds_toArray, List.set_cons_zero, List.set_cons_succ]
          refine wpAnyK_step 22 rfl (by kernel_rfl) (fun K22 hK => ?_)
          go_simp
          refine hK.out _ _ (fun h => nomatch (h.symm.trans (show _ = true by kernel_rfl))) ?_
          clear hK K22
          try simp only [Act.put, List.setIfInBounds_toArray, List.set_cons_zero, List.set_cons_succ]
          refine wpAnyK_done (by kernel_rfl) ?_ _
          go_wp2
          go_ret
          exact ⟨rfl, below_drewN HU.out 1⟩
      · have qn : (nm == ([] : List UInt8)) = false := by simpa using hn0
        rw [decide_eq_true hnl]
        have qE : ((F : Int) == 112) = false := by rw [beq_eq_false_iff_ne]; omega
        have qE' : ((F : Int) != 112) = true := by simp; omega
        have CN10 := HNm.out wr hBr
        have n0 : wr.cell? ⟨w.heap.size + 1, 0, none⟩ = some (.int .i64 alg) := (HH.out wr hBr).cell 0 (by simp)
        have pr := (HP.out wr hBr).range
        have HBl : Hid (Below W.heap.size W wr) := hBr
        clear hBr
        go_wp2_with fail
        refine CN10.mono ?_
        clear CN10
        rintro e wn ⟨rfl, hwn⟩
        obtain rfl := hwn.symm
        obtain ⟨qb, hqb⟩ : ∃ qb, wr.heap.size = qb := ⟨_, rfl⟩
        obtain ⟨w3, hw3⟩ : ∃ w3 : World, wr.alloc (.cells (([.slice none 0 0, .string iss, .bool hi, .string aud, .bool ha, .string ⟨ty.toArray⟩, .bool wt, .int .i64 lee, .slice na nl nc] : List Value).toArray) 24) = w3 := ⟨_, rfl⟩
        have HQ3 : Hid (Bl 24 w3 qb [.slice none 0 0, .string iss, .bool hi, .string aud, .bool ha, .string ⟨ty.toArray⟩, .bool wt, .int .i64 lee, .slice na nl nc]) := by rw [← hw3, ← hqb]; exact alloc_bl _ _ _
        have hB3 : Below W.heap.size W w3 := by rw [← hw3]; exact HBl.out.trans ((alloc_below _ _).mono HBl.out.size)
        have HW3 : Hid (wr.alloc (.cells (([.slice none 0 0, .string iss, .bool hi, .string aud, .bool ha, .string ⟨ty.toArray⟩, .bool wt, .int .i64 lee, .slice na nl nc] : List Value).toArray) 24) = w3) := hw3
        have HB3 : Hid (Below W.heap.size W w3) := hB3
        clear hw3 hB3
        go_upto_region 14 with (refine wpList_load_mid rfl 24 (.tmp 4) rfl w.heap.size 0 rfl [.slice ao l.length cap, .string iss, .bool hi, .string aud, .bool ha, .string ⟨ty.toArray⟩, .bool wt, .int .i64 lee, .slice na nl nc] _ pr Tryz.underlying24 rfl hcp ?_)
        rw [HW3.out]
        clear HW3 pr n0
        have s0 : w3.cell? ⟨qb, 0, none⟩ = some (.slice none 0 0) := HQ3.out.cell 0 (by simp)
        have hTm : TR (w3.alloc (.cells #[.string ⟨more.toArray⟩] 9)) (.slice (some ⟨w3.heap.size, 0, none⟩) 1 1) [more] (some ⟨w3.heap.size, 0, none⟩) 1 := by
          have hbm : Bl 9 (w3.alloc (.cells #[.string ⟨more.toArray⟩] 9)) w3.heap.size [.string ⟨more.toArray⟩] := alloc_bl _ _ _
          refine ⟨rfl, Nat.le_refl _, .inr ⟨w3.heap.size, 0, rfl, hbm.lt, fun j hj => ?_⟩⟩
          obtain rfl : j = 0 := by simpa using hj
          exact hbm.cell 0 (by simp)
        have HQm : Hid (Bl 24 (w3.alloc (.cells #[.string ⟨more.toArray⟩] 9)) qb [.slice none 0 0, .string iss, .bool hi, .string aud, .bool ha, .string ⟨ty.toArray⟩, .bool wt, .int .i64 lee, .slice na nl nc]) := HQ3.out.below (alloc_below _ _) HQ3.out.lt
        have HBm : Hid (Below W.heap.size W (w3.alloc (.cells #[.string ⟨more.toArray⟩] 9))) := HB3.out.trans ((alloc_below _ _).mono HB3.out.size)
        go_upto_region 15 with (at_builtin; refine append_txt (wr := w3.alloc (.cells #[.string ⟨more.toArray⟩] 9)) rfl (.tmp 51) (.tmp 53) rfl W.heap.size (.slice none 0 0) [] rfl (World.ownsRow_nil _ _ _ _) (some ⟨w3.heap.size, 0, none⟩) 1 [more] rfl hTm (fun h => by cases h) (show 0 + 1 ≤ 1000000000 by decide) HBm.out.size ?_; intro v1 w4 ho1 hg1; obtain ⟨a1, c1, rfl, _, _⟩ := own_slice ho1; have HQ4 : Hid (Bl 24 w4 qb [.slice none 0 0, .string iss, .bool hi, .string aud, .bool ha, .string ⟨ty.toArray⟩, .bool wt, .int .i64 lee, .slice na nl nc]) := bl_grown HQm.out hg1 (fun e => by cases e); have HB4 : Hid (Below W.heap.size W w4) := Below.grown HBm.out hg1 HBm.out.size (fun k e => by cases e); have HO4 : Hid (OT W.heap.size w4 (.slice a1 1 c1) [more]) := ho1; have s1 : w4.cell? ⟨qb, 0, none⟩ = some (.slice none 0 0) := HQ4.out.cell 0 (by simp); have f1 := HQ4.out.frozen 0; clear ho1 hg1)
        obtain ⟨w5, hw5⟩ : ∃ w5 : World, w4.setCell ⟨qb, 0, none⟩ (.slice a1 1 c1) = w5 := ⟨_, rfl⟩
        rw [hw5]
        have hqW : W.heap.size ≤ qb := by have := HBl.out.size; omega
        have HQ5 : Hid (Bl 24 w5 qb [.slice a1 1 c1, .string iss, .bool hi, .string aud, .bool ha, .string ⟨ty.toArray⟩, .bool wt, .int .i64 lee, .slice na nl nc]) := by rw [← hw5]; exact HQ4.out.set 0 _
        have HB5 : Hid (Below W.heap.size W w5) := by rw [← hw5]; exact Below.setCell HB4.out hqW _
        have HO5 : Hid (OT W.heap.size w5 (.slice a1 1 c1) [more]) := by
          have ha := block_apart HO4.out HQ4.out (by decide)
          rw [← hw5]
          exact own_keep HO4.out fun g hg => heap_setCell_other w4 _ g _ (fun e => ha (by rw [hg]; exact congrArg some e))
        have s5 : w5.cell? ⟨qb, 0, none⟩ = some (.slice a1 1 c1) := HQ5.out.cell 0 (by simp)
        have p5 : w5.cell? ⟨w.heap.size, 0, none⟩ = some (.slice ao l.length cap) := (HP.out w5 HB5.out).cell 0 (by simp)
        clear hw5 HQ4 HB4 HO4 s1 f1 HQm HBm hTm s0 HQ3 HB3
        go_upto_region 16 with (at_builtin; refine append_txt (wr := w5) rfl (.tmp 57) (.tmp 59) rfl W.heap.size (.slice a1 1 c1) [more] rfl HO5.out ao cap l rfl (HTR.out w5 (HB.out w5 HB5.out)) hna (by simp only [List.length_cons, List.length_nil]; omega) HB5.out.size ?_; intro v2 w6 ho2 hg2; obtain ⟨a2, c2, e2, _, _⟩ := own_slice ho2; rw [show ([more] ++ l).length = l.length + 1 by simp] at e2; subst e2; have ha2 := block_apart HO5.out HQ5.out (by decide); have HQ6 : Hid (Bl 24 w6 qb [.slice a1 1 c1, .string iss, .bool hi, .string aud, .bool ha, .string ⟨ty.toArray⟩, .bool wt, .int .i64 lee, .slice na nl nc]) := bl_grown HQ5.out hg2 ha2; have HB6 : Hid (Below W.heap.size W w6) := Below.grown HB5.out hg2 HB5.out.size (own_block HO5.out); have HO6 : Hid (OT W.heap.size w6 (.slice a2 (l.length + 1) c2) (more :: l)) := ho2; have s6 : w6.cell? ⟨qb, 0, none⟩ = some (.slice a1 1 c1) := HQ6.out.cell 0 (by simp); have f6 := HQ6.out.frozen 0; clear ho2 hg2 ha2)
        obtain ⟨w7, hw7⟩ : ∃ w7 : World, w6.setCell ⟨qb, 0, none⟩ (.slice a2 (l.length + 1) c2) = w7 := ⟨_, rfl⟩
        rw [hw7]
        have HQ7 : Hid (Bl 24 w7 qb [.slice a2 (l.length + 1) c2, .string iss, .bool hi, .string aud, .bool ha, .string ⟨ty.toArray⟩, .bool wt, .int .i64 lee, .slice na nl nc]) := by rw [← hw7]; exact HQ6.out.set 0 _
        have HB7 : Hid (Below W.heap.size W w7) := by rw [← hw7]; exact Below.setCell HB6.out hqW _
        have HO7 : Hid (OT W.heap.size w7 (.slice a2 (l.length + 1) c2) (more :: l)) := by
          have ha := block_apart HO6.out HQ6.out (by decide)
          rw [← hw7]
          exact own_keep HO6.out fun g hg => heap_setCell_other w6 _ g _ (fun e => ha (by rw [hg]; exact congrArg some e))
        have hT7 : TR w7 (.slice a2 (l.length + 1) c2) (more :: l) a2 c2 := by
          obtain ⟨bo, bc, e, ht⟩ := HO7.out.tr
          cases e
          exact ht
        have C7 := CA2.out a2 c2 w7 (HB.out w7 HB7.out) hT7
        have r7 := HQ7.out.range
        have h7 := (HH.out w7 HB7.out).range
        have hc7 : (Tryz.prog.info? 24).map (·.size) = some ([.slice a2 (l.length + 1) c2, .string iss, .bool hi, .string aud, .bool ha, .string ⟨ty.toArray⟩, .bool wt, .int .i64 lee, .slice na nl nc] : List Value).length := by kernel_rfl
        clear hw7 HQ6 HB6 HO6 HO5 HQ5 HB5 s5 p5 s6 f6 HQ7 HO7 hT7 CA2
        go_wp2_with (first | (refine wpList_load_mid rfl 24 (.tmp 12) rfl qb 0 rfl [.slice a2 (l.length + 1) c2, .string iss, .bool hi, .string aud, .bool ha, .string ⟨ty.toArray⟩, .bool wt, .int .i64 lee, .slice na nl nc] _ r7 Tryz.underlying24 rfl hc7 ?_) | (refine wpList_load_mid rfl 27 (.tmp 6) rfl (w.heap.size + 1) 0 rfl [.int .i64 alg, .string ⟨kid.toArray⟩, .string ⟨typ.toArray⟩, .bool has] _ h7 Tryz.underlying27 rfl hch ?_))
        refine C7.mono ?_
        clear C7 r7 h7
        rintro e w8 ⟨rfl, hw8⟩
        have HB8 : Hid (Below w.heap.size w w8) := HB.out w8 (HB7.out.trans (hw8.mono HB7.out.size))
        have C8 := HPt.out w8 HB8.out
        clear hw8 HPt HB7
        go_wp2_with fail
        refine C8.mono ?_
        clear C8
        rintro e w9 ⟨rfl, hw9⟩
        have HB9 : Hid (Below w.heap.size w w9) := HB8.out.trans (hw9.mono HB8.out.size)
        clear hw9
        obtain ⟨v2, hv2⟩ : ∃ v2 : World, w9.alloc (.cells (([.int .i64 ga, .string ⟨gk.toArray⟩, .string ⟨gt.toArray⟩, .bool gh] : List Value).toArray) 27) = v2 := ⟨_, rfl⟩
        have hbg : Bl 27 v2 w9.heap.size [.int .i64 ga, .string ⟨gk.toArray⟩, .string ⟨gt.toArray⟩, .bool gh] := by rw [← hv2]; exact alloc_bl _ _ _
        have HU : Hid (Below w.heap.size w v2) := by rw [← hv2]; exact HB9.out.trans ((alloc_below _ _).mono HB9.out.size)
        have HSS : Hid (∀ wq, Below v2.heap.size v2 wq → (fun (w' : World) => w'.cell? ⟨w9.heap.size, 0, none⟩ = some (.int .i64 ga) ∧ w'.cell? ⟨w9.heap.size, 1, none⟩ = some (.string ⟨gk.toArray⟩) ∧ w'.cell? ⟨w9.heap.size, 2, none⟩ = some (.string ⟨gt.toArray⟩) ∧ w'.cell? ⟨w9.heap.size, 3, none⟩ = some (.bool gh)) wq) := fun wq hq => by
          have := hbg.below hq hbg.lt
          exact ⟨this.cell 0 (by simp), this.cell 1 (by simp), this.cell 2 (by simp), this.cell 3 (by simp)⟩
        clear hbg
        by_cases hc : gc = 0
        · subst hc
          have hfg := HFG.out rfl
          have q1 : decide (ga ≥ 1) = true := decide_eq_true hfg.1
          have q12 : decide (ga ≤ 12) = true := decide_eq_true hfg.2
          obtain ⟨gn, hgn⟩ : ∃ gn, nameF' ga = gn := ⟨_, rfl⟩
          have hall : allowF [gn] false [] ⟨ga, gk, gt, gh⟩ = 0 := by
            unfold allowF
            have hne : nameF' ga ≠ [] := name_ne hfg.1 hfg.2
            rw [hgn] at hne ⊢
            simp [hne]
          have HGn : Hid (∀ wq, Below v2.heap.size v2 wq → Calls Tryz.prog 10 #[.int .i64 ga] wq fun e w' => e = .returned (.string ⟨gn.toArray⟩) ∧ w' = wq) := fun wq hq => by
            have := kname_any ga wq (HAq.out wq (HU.out.trans (hq.mono HU.out.size)))
            rwa [hgn] at this
          have HGa : Hid (∀ wq, Below v2.heap.size v2 wq → wq = ((v2.drewN 1).alloc (Obj.cells #[.string ⟨gn.toArray⟩] 9)) → Calls Tryz.prog 9 #[.agg #[.slice (some ⟨v2.heap.size, 0, none⟩) 1 1, .string { data := #[] }, .bool false, .string { data := #[] }, .bool false, .string { data := #[] }, .bool false, .int .i64 0, .slice none 0 0], .agg #[.int .i64 ga, .string ⟨gk.toArray⟩, .string ⟨gt.toArray⟩, .bool gh]] wq fun e w' => e = .returned (.int .i64 0) ∧ Below wq.heap.size wq w') := fun wq hq ew => by
            have hbm : Bl 9 wq v2.heap.size [.string ⟨gn.toArray⟩] := by rw [ew]; exact alloc_bl (v2.drewN 1) _ _
            have := allow_any (some ⟨v2.heap.size, 0, none⟩) 1 [gn] ⟨#[]⟩ false ⟨#[]⟩ false [] false 0 (.slice none 0 0) ⟨ga, gk, gt, gh⟩ wq ⟨rfl, Nat.le_refl _, .inr ⟨v2.heap.size, 0, rfl, hbm.lt, fun j hj => by
              obtain rfl : j = 0 := by simpa using hj
              exact hbm.cell 0 (by simp)⟩⟩ (show 1 ≤ 9223372036854775807 by decide) (HAq.out wq (HU.out.trans (hq.mono HU.out.size)))
            rw [hall] at this
            exact this
          clear hfg hgn hall HAq HFG
          go_wp2
          refine wp_region_K 18 (fun (w' : World) => w'.cell? ⟨w9.heap.size, 0, none⟩ = some (.int .i64 ga) ∧ w'.cell? ⟨w9.heap.size, 1, none⟩ = some (.string ⟨gk.toArray⟩) ∧ w'.cell? ⟨w9.heap.size, 2, none⟩ = some (.string ⟨gt.toArray⟩) ∧ w'.cell? ⟨w9.heap.size, 3, none⟩ = some (.bool gh)) (by kernel_rfl) ?_
          have hHeld : ((fun (w' : World) => w'.cell? ⟨w9.heap.size, 0, none⟩ = some (.int .i64 ga) ∧ w'.cell? ⟨w9.heap.size, 1, none⟩ = some (.string ⟨gk.toArray⟩) ∧ w'.cell? ⟨w9.heap.size, 2, none⟩ = some (.string ⟨gt.toArray⟩) ∧ w'.cell? ⟨w9.heap.size, 3, none⟩ = some (.bool gh))) (World.drew _) := HSS.out _ (below_drewN (Below.refl _ _) 1)
          refine wpAnyK_take0 0 (v := ?v47) rfl (by kernel_rfl) (fun _ _ _ h => h) (Or.inl ⟨by rfl, ?hy47⟩) (fun _ => hHeld) ?_
          case hy47 => (intro w hSw; go_simp; try with_reducible rfl)
          try simp only [Act.put, List.setIfInBounds_toArray, List.set_cons_zero, List.set_cons_succ]
          refine wpAnyK_take0 1 (v := ?v48) rfl (by kernel_rfl) (fun _ _ _ h => h) (Or.inl ⟨by rfl, ?hy48⟩) (fun _ => hHeld) ?_
          case hy48 => (intro w hSw; go_simp; try with_reducible rfl)
          try simp only [Act.put, List.setIfInBounds_toArray, List.set_cons_zero, List.set_cons_succ]
          refine wpAnyK_take0 2 (v := ?v49) rfl (by kernel_rfl) (fun _ _ _ h => h) (Or.inl ⟨by rfl, ?hy49⟩) (fun _ => hHeld) ?_
          case hy49 => (intro w hSw; go_simp; try with_reducible rfl)
          try simp only [Act.put, List.setIfInBounds_toArray, List.set_cons_zero, List.set_cons_succ]
          refine wpAnyK_take0 3 (v := ?v50) rfl (by kernel_rfl) (fun _ _ _ h => h) (Or.inl ⟨by rfl, ?hy50⟩) (fun _ => hHeld) ?_
          case hy50 => (intro w hSw; go_simp; try with_reducible rfl)
          try simp only [Act.put, List.setIfInBounds_toArray, List.set_cons_zero, List.set_cons_succ]
          refine wpAnyK_take 4 [5, 6, 10, 11, 18] (v := ?v51) rfl (by kernel_rfl) (fun _ _ _ h => h) (Or.inl ⟨by rfl, ?hy51⟩) hHeld ?_
          case hy51 => (intro w hSw; (try dsimp only at hSw); go_simp; try with_reducible rfl)
          try simp only [Act.put, List.setIfInBounds_toArray, List.set_cons_zero, List.set_cons_succ]
          refine wpAnyK_take0 5 (v := ?v52) rfl (by kernel_rfl) (fun _ _ _ h => h) (Or.inl ⟨by rfl, ?hy52⟩) (fun _ => hHeld) ?_
          case hy52 => (intro w hSw; go_simp; (try rw [q1]); try with_reducible rfl)
          try simp only [Act.put, List.setIfInBounds_toArray, List.set_cons_zero, List.set_cons_succ]
          refine wpAnyK_take0 6 (v := ?v53) rfl (by kernel_rfl) (fun _ _ _ h => h) (Or.inl ⟨by rfl, ?hy53⟩) (fun _ => hHeld) ?_
          case hy53 => (intro w hSw; go_simp; try with_reducible rfl)
          try simp only [Act.put, List.setIfInBounds_toArray, List.set_cons_zero, List.set_cons_succ]
          refine wpAnyK_take0 7 (v := ?v54) rfl (by kernel_rfl) (fun _ _ _ h => h) (Or.inl ⟨by rfl, ?hy54⟩) (fun _ => hHeld) ?_
          case hy54 => (intro w hSw; go_simp; try with_reducible rfl)
          try simp only [Act.put, List.setIfInBounds_toArray, List.set_cons_zero, List.set_cons_succ]
          refine wpAnyK_take 8 [9, 10, 11, 18] (v := ?v55) rfl (by kernel_rfl) (fun _ _ _ h => h) (Or.inl ⟨by rfl, ?hy55⟩) hHeld ?_
          case hy55 => (intro w hSw; (try dsimp only at hSw); go_simp; try with_reducible rfl)
          try simp only [Act.put, List.setIfInBounds_toArray, List.set_cons_zero, List.set_cons_succ]
          refine wpAnyK_take0 9 (v := ?v56) rfl (by kernel_rfl) (fun _ _ _ h => h) (Or.inl ⟨by rfl, ?hy56⟩) (fun _ => hHeld) ?_
          case hy56 => (intro w hSw; go_simp; (try rw [q12]); try with_reducible rfl)
          try simp only [Act.put, List.setIfInBounds_toArray, List.set_cons_zero, List.set_cons_succ]
          refine wpAnyK_take0 10 (v := ?v57) rfl (by kernel_rfl) (fun _ _ _ h => h) (Or.inl ⟨by rfl, ?hy57⟩) (fun _ => hHeld) ?_
          case hy57 => (intro w hSw; go_simp; try with_reducible rfl)
          try simp only [Act.put, List.setIfInBounds_toArray, List.set_cons_zero, List.set_cons_succ]
          refine wpAnyK_take0 11 (v := ?v58) rfl (by kernel_rfl) (fun _ _ _ h => h) (Or.inl ⟨by rfl, ?hy58⟩) (fun _ => hHeld) ?_
          case hy58 => (intro w hSw; go_simp; try with_reducible rfl)
          try simp only [Act.put, List.setIfInBounds_toArray, List.set_cons_zero, List.set_cons_succ]
          refine wpAnyK_take0 12 (v := ?v59) rfl (by kernel_rfl) (fun _ _ _ h => h) (Or.inl ⟨by rfl, ?hy59⟩) (fun _ => hHeld) ?_
          case hy59 => (intro w hSw; go_simp; try with_reducible rfl)
          try simp only [Act.put, List.setIfInBounds_toArray, List.set_cons_zero, List.set_cons_succ]
          refine wpAnyK_take 13 [14, 15, 16, 18] (v := ?v60) rfl (by kernel_rfl) (fun _ _ _ h => h) (Or.inl ⟨by rfl, ?hy60⟩) hHeld ?_
          case hy60 => (intro w hSw; (try dsimp only at hSw); go_simp; try with_reducible rfl)
          try simp only [Act.put, List.setIfInBounds_toArray, List.set_cons_zero, List.set_cons_succ]
          refine wpAnyK_take 17 [18] (v := ?v61) rfl (by kernel_rfl) (fun _ _ _ h => h) (Or.inl ⟨by rfl, ?hy61⟩) hHeld ?_
          case hy61 => (intro w hSw; (try dsimp only at hSw); go_simp; try with_reducible rfl)
          try simp only [Act.put, List.setIfInBounds_toArray, List.set_cons_zero, List.set_cons_succ]
          refine wpAnyK_step 14 rfl (by kernel_rfl) (fun K hK => ?_)
          go_simp
          refine (HGn.out _ (below_drewN (Below.refl _ _) 1)).mono ?_
          rintro e v3 ⟨rfl, rfl⟩
          dsimp only
          refine hK.out _ _ ?hk62 ?_
          case hk62 => exact fun _ => HSS.out _ (below_drewN (Below.refl _ _) 1)
          have hHeld : ((fun (w' : World) => w'.cell? ⟨w9.heap.size, 0, none⟩ = some (.int .i64 ga) ∧ w'.cell? ⟨w9.heap.size, 1, none⟩ = some (.string ⟨gk.toArray⟩) ∧ w'.cell? ⟨w9.heap.size, 2, none⟩ = some (.string ⟨gt.toArray⟩) ∧ w'.cell? ⟨w9.heap.size, 3, none⟩ = some (.bool gh))) _ := HSS.out _ (below_drewN (Below.refl _ _) 1)
          clear hK K
          try simp only [Act.put, List.setIfInBounds_toArray, List.set_cons_zero, List.set_cons_succ]
          refine wpAnyK_step 15 rfl (by kernel_rfl) (fun K9 hK => ?_)
          go_simp
          have HBB : Hid (Below v2.heap.size v2 ((v2.drewN 1).alloc (Obj.cells #[.string ⟨gn.toArray⟩] 9))) := (below_drewN (Below.refl _ _) 1).trans ((alloc_below _ _).mono (Nat.le_refl _))
          refine hK.out _ _ ?hk63 ?_
          case hk63 => exact fun _ => HSS.out _ HBB.out
          have hHeld : ((fun (w' : World) => w'.cell? ⟨w9.heap.size, 0, none⟩ = some (.int .i64 ga) ∧ w'.cell? ⟨w9.heap.size, 1, none⟩ = some (.string ⟨gk.toArray⟩) ∧ w'.cell? ⟨w9.heap.size, 2, none⟩ = some (.string ⟨gt.toArray⟩) ∧ w'.cell? ⟨w9.heap.size, 3, none⟩ = some (.bool gh))) _ := HSS.out _ HBB.out
          clear hK K9
          try simp only [Act.put, List.setIfInBounds_toArray, List.set_cons_zero, List.set_cons_succ]
          refine wpAnyK_take0 16 (v := ?v64) rfl (by kernel_rfl) (fun _ _ _ h => h) (Or.inl ⟨by rfl, ?hy64⟩) (fun _ => hHeld) ?_
          case hy64 => (intro w hSw; go_simp; try with_reducible rfl)
          try simp only [Act.put, List.setIfInBounds_toArray, List.set_cons_zero, List.set_cons_succ]
          refine wpAnyK_step 18 rfl (by kernel_rfl) (fun K hK => ?_)
          go_simp
          refine (HGa.out _ HBB.out rfl).mono ?_
          rintro e v4 ⟨rfl, hv4⟩
          have HBv : Hid (Below w.heap.size w v4) := HU.out.trans ((HBB.out.trans (hv4.mono HBB.out.size)).mono HU.out.size)
          clear hv4
          dsimp only
          refine hK.out _ _ ?hk65 ?_
          case hk65 => exact (fun h => nomatch (h.symm.trans (show _ = true by kernel_rfl)))
          clear hK K
          try simp only [Act.put, List.setIfInBounds_toArray, List.set_cons_zero, List.set_cons_succ]
          refine wpAnyK_take0 19 (v := ?v66) rfl (by kernel_rfl) (fun _ _ _ h => h) (Or.inl ⟨by rfl, ?hy66⟩) (fun h => nomatch (h.symm.trans (show _ = true by kernel_rfl))) ?_
          case hy66 => (intro w hSw; go_simp; try with_reducible rfl)
          try simp only [Act.put, List.setIfInBounds_toArray, List.set_cons_zero, List.set_cons_succ]
          refine wpAnyK_take0 20 (v := ?v67) rfl (by kernel_rfl) (fun _ _ _ h => h) (Or.inl ⟨by rfl, ?hy67⟩) (fun h => nomatch (h.symm.trans (show _ = true by kernel_rfl))) ?_
          case hy67 => (intro w hSw; go_simp; try with_reducible rfl)
          try simp only [Act.put, List.setIfInBounds_toArray, List.set_cons_zero, List.set_cons_succ]
          refine wpAnyK_take0 21 (v := ?v68) rfl (by kernel_rfl) (fun _ _ _ h => h) (Or.inl ⟨by rfl, ?hy68⟩) (fun h => nomatch (h.symm.trans (show _ = true by kernel_rfl))) ?_
          case hy68 => (intro w hSw; go_simp; try with_reducible rfl)
          try simp only [Act.put, List.setIfInBounds_toArray, List.set_cons_zero, List.set_cons_succ]
          refine wpAnyK_take0 22 (v := ?v69) rfl (by kernel_rfl) (fun _ _ _ h => h) (Or.inl ⟨by rfl, ?hy69⟩) (fun h => nomatch (h.symm.trans (show _ = true by kernel_rfl))) ?_
          case hy69 => (intro w hSw; go_simp; try with_reducible rfl)
          try simp only [Act.put, List.setIfInBounds_toArray, List.set_cons_zero, List.set_cons_succ]
          refine wpAnyK_done (by kernel_rfl) ?_ _
          go_wp2
          go_ret
          exact ⟨rfl, HBv.out⟩
        · have qc : ((gc : Int) == 0) = false := by rw [beq_eq_false_iff_ne]; omega
          have qc' : ((gc : Int) != 0) = true := by simp; omega
          clear hc HAq HFG HSS
          go_wp2
          refine wp_region_K 22 (fun (_ : World) => True) (by kernel_rfl) ?_
          refine wpAnyK_take0 0 (v := ?v0q) rfl (by kernel_rfl) (fun _ _ _ h => h) (Or.inl ⟨by rfl, ?hy0q⟩) (fun _ => trivial) ?_
          case hy0q => (intro w hSw; go_simp; (try rw [qc']); try with_reducible rfl)
          try simp only [Act.put, List.setIfInBounds_toArray, List.set_cons_zero, List.set_cons_succ]
          refine wpAnyK_take0 1 (v := ?v1q) rfl (by kernel_rfl) (fun _ _ _ h => h) (Or.inl ⟨by rfl, ?hy1q⟩) (fun _ => trivial) ?_
          case hy1q => (intro w hSw; go_simp; (try rw [qc']); try with_reducible rfl)
          try simp only [Act.put, List.setIfInBounds_toArray, List.set_cons_zero, List.set_cons_succ]
          refine wpAnyK_take0 2 (v := ?v2q) rfl (by kernel_rfl) (fun _ _ _ h => h) (Or.inl ⟨by rfl, ?hy2q⟩) (fun _ => trivial) ?_
          case hy2q => (intro w hSw; go_simp; (try rw [qc']); try with_reducible rfl)
          try simp only [Act.put, List.setIfInBounds_toArray, List.set_cons_zero, List.set_cons_succ]
          refine wpAnyK_take0 3 (v := undef) rfl (by kernel_rfl) (fun _ _ _ h => h) (Or.inr ⟨by rfl, rfl⟩) (fun _ => trivial) ?_
          try simp only [Act.put, List.setIfInBounds_toArray, List.set_cons_zero, List.set_cons_succ]
          refine wpAnyK_take0 4 (v := undef) rfl (by kernel_rfl) (fun _ _ _ h => h) (Or.inr ⟨by rfl, rfl⟩) (fun _ => trivial) ?_
          try simp only [Act.put, List.setIfInBounds_toArray, List.set_cons_zero, List.set_cons_succ]
          refine wpAnyK_take0 5 (v := undef) rfl (by kernel_rfl) (fun _ _ _ h => h) (Or.inr ⟨by rfl, rfl⟩) (fun _ => trivial) ?_
          try simp only [Act.put, List.setIfInBounds_toArray, List.set_cons_zero, List.set_cons_succ]
          refine wpAnyK_take0 6 (v := undef) rfl (by kernel_rfl) (fun _ _ _ h => h) (Or.inr ⟨by rfl, rfl⟩) (fun _ => trivial) ?_
          try simp only [Act.put, List.setIfInBounds_toArray, List.set_cons_zero, List.set_cons_succ]
          refine wpAnyK_take0 7 (v := undef) rfl (by kernel_rfl) (fun _ _ _ h => h) (Or.inr ⟨by rfl, rfl⟩) (fun _ => trivial) ?_
          try simp only [Act.put, List.setIfInBounds_toArray, List.set_cons_zero, List.set_cons_succ]
          refine wpAnyK_take0 8 (v := undef) rfl (by kernel_rfl) (fun _ _ _ h => h) (Or.inr ⟨by rfl, rfl⟩) (fun _ => trivial) ?_
          try simp only [Act.put, List.setIfInBounds_toArray, List.set_cons_zero, List.set_cons_succ]
          refine wpAnyK_take0 9 (v := undef) rfl (by kernel_rfl) (fun _ _ _ h => h) (Or.inr ⟨by rfl, rfl⟩) (fun _ => trivial) ?_
          try simp only [Act.put, List.setIfInBounds_toArray, List.set_cons_zero, List.set_cons_succ]
          refine wpAnyK_take0 10 (v := undef) rfl (by kernel_rfl) (fun _ _ _ h => h) (Or.inr ⟨by rfl, rfl⟩) (fun _ => trivial) ?_
          try simp only [Act.put, List.setIfInBounds_toArray, List.set_cons_zero, List.set_cons_succ]
          refine wpAnyK_take0 11 (v := undef) rfl (by kernel_rfl) (fun _ _ _ h => h) (Or.inr ⟨by rfl, rfl⟩) (fun _ => trivial) ?_
          try simp only [Act.put, List.setIfInBounds_toArray, List.set_cons_zero, List.set_cons_succ]
          refine wpAnyK_take0 12 (v := undef) rfl (by kernel_rfl) (fun _ _ _ h => h) (Or.inr ⟨by rfl, rfl⟩) (fun _ => trivial) ?_
          try simp only [Act.put, List.setIfInBounds_toArray, List.set_cons_zero, List.set_cons_succ]
          refine wpAnyK_take0 13 (v := undef) rfl (by kernel_rfl) (fun _ _ _ h => h) (Or.inr ⟨by rfl, rfl⟩) (fun _ => trivial) ?_
          try simp only [Act.put, List.setIfInBounds_toArray, List.set_cons_zero, List.set_cons_succ]
          refine wpAnyK_take0 17 (v := undef) rfl (by kernel_rfl) (fun _ _ _ h => h) (Or.inr ⟨by rfl, rfl⟩) (fun _ => trivial) ?_
          try simp only [Act.put, List.setIfInBounds_toArray, List.set_cons_zero, List.set_cons_succ]
          refine wpAnyK_step 14 rfl (by kernel_rfl) (fun K14 hK => ?_)
          go_simp
          refine hK.out _ _ (fun _ => trivial) ?_
          clear hK K14
          try simp only [Act.put, List.setIfInBounds_toArray, List.set_cons_zero, List.set_cons_succ]
          refine wpAnyK_step 15 rfl (by kernel_rfl) (fun K15 hK => ?_)
          go_simp
          refine hK.out _ _ (fun _ => trivial) ?_
          clear hK K15
          try simp only [Act.put, List.setIfInBounds_toArray, List.set_cons_zero, List.set_cons_succ]
          refine wpAnyK_take0 16 (v := undef) rfl (by kernel_rfl) (fun _ _ _ h => h) (Or.inr ⟨by rfl, rfl⟩) (fun _ => trivial) ?_
          try simp only [Act.put, List.setIfInBounds_toArray, List.set_cons_zero, List.set_cons_succ]
          refine wpAnyK_step 18 rfl (by kernel_rfl) (fun K18 hK => ?_)
          go_simp
          refine hK.out _ _ (fun _ => trivial) ?_
          clear hK K18
          try simp only [Act.put, List.setIfInBounds_toArray, List.set_cons_zero, List.set_cons_succ]
          refine wpAnyK_take0 19 (v := undef) rfl (by kernel_rfl) (fun _ _ _ h => h) (Or.inr ⟨by rfl, rfl⟩) (fun _ => trivial) ?_
          try simp only [Act.put, List.setIfInBounds_toArray, List.set_cons_zero, List.set_cons_succ]
          refine wpAnyK_take0 20 (v := undef) rfl (by kernel_rfl) (fun _ _ _ h => h) (Or.inr ⟨by rfl, rfl⟩) (fun _ => trivial) ?_
          try simp only [Act.put, List.setIfInBounds_toArray, List.set_cons_zero, List.set_cons_succ]
          refine wpAnyK_take0 21 (v := ?v21q) rfl (by kernel_rfl) (fun _ _ _ h => h) (Or.inl ⟨by rfl, ?hy21q⟩) (fun _ => trivial) ?_
          case hy21q => (intro w hSw; go_simp; (try rw [qc']); try with_reducible rfl)
          try simp only [Act.put, List.setIfInBounds_toArray, List.set_cons_zero, List.set_cons_succ]
          refine wpAnyK_step 22 rfl (by kernel_rfl) (fun K22 hK => ?_)
          go_simp
          refine hK.out _ _ (fun h => nomatch (h.symm.trans (show _ = true by kernel_rfl))) ?_
          clear hK K22
          try simp only [Act.put, List.setIfInBounds_toArray, List.set_cons_zero, List.set_cons_succ]
          refine wpAnyK_done (by kernel_rfl) ?_ _
          go_wp2
          go_ret
          exact ⟨rfl, below_drewN HU.out 1⟩

end Go.Proofs.YtfpimcmhooiooaaGreatDoor
