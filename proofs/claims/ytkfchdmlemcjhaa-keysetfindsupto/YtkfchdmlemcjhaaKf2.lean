import Derived.Test.YtkfchdmlemcjhaaKf1
namespace Go.Proofs.Ytkfchdmlemcjhaa
open Go.RowKit Go.Shelf
set_option maxRecDepth 100000

def es (l : List Ex) : List En := l.map Ex.e
theorem es_take {l : List Ex} {i : Nat} {x : Ex} (h : l[i]? = some x) : (es l).take (i + 1) = (es l).take i ++ [x.e] := by
  have hi : i < (es l).length := by
    unfold es
    rw [List.length_map]
    exact (List.getElem?_eq_some_iff.1 h).1
  rw [List.take_succ_eq_append_getElem hi]
  congr 2
  have e : (es l)[i]? = some x.e := by unfold es; rw [List.getElem?_map, h]; rfl
  rw [List.getElem?_eq_getElem hi] at e
  exact Option.some.inj e
theorem es_all (l : List Ex) : (es l).take l.length = es l := by
  unfold es
  rw [← List.map_take, List.take_length]
/-- Is it the one that is looked for? -/
def hit (k : List UInt8) (e : En) : Bool := e.hKid && (e.kid == k)
def lastE (k : List UInt8) (l : List En) : En := l.foldl (fun a e => if hit k e then e else a) zeroE
def cnt (k : List UInt8) (l : List En) : Nat := (l.filter (hit k)).length
theorem lastE_snoc (k : List UInt8) (l : List En) (e : En) : lastE k (l ++ [e]) = if hit k e then e else lastE k l := by simp [lastE]
theorem cnt_snoc (k : List UInt8) (l : List En) (e : En) : cnt k (l ++ [e]) = cnt k l + if hit k e then 1 else 0 := by
  unfold cnt
  rw [List.filter_append, List.length_append]
  cases h : hit k e <;> simp [h]
theorem cnt_le (k : List UInt8) (l : List En) : cnt k l ≤ l.length := List.length_filter_le _ _
/-- What Find answers. -/
def ansE (k : List UInt8) (l : List En) : En × Int := if cnt k l = 0 then (zeroE, 103) else if 1 < cnt k l then (zeroE, 104) else (lastE k l, 0)
theorem lastE_bd {P : En → Prop} (hz : P zeroE) (k : List UInt8) : ∀ (l : List En) (a : En), P a → (∀ e ∈ l, P e) → P (l.foldl (fun a e => if hit k e then e else a) a)
  | [], a, ha, _ => ha
  | e :: t, a, ha, hl => lastE_bd hz k t _ (by dsimp only; split; exact hl e (List.mem_cons_self ..); exact ha) fun x hx => hl x (List.mem_cons_of_mem _ hx)
theorem ansE_bd (N : Nat) (k : List UInt8) (l : List Ex) (h : ∀ x ∈ l, x.e.val.length ≤ N ∧ x.e.ops.length ≤ N) : (ansE k (es l)).1.val.length ≤ N ∧ (ansE k (es l)).1.ops.length ≤ N := by
  unfold ansE
  split
  · exact ⟨Nat.zero_le _, Nat.zero_le _⟩
  · split
    · exact ⟨Nat.zero_le _, Nat.zero_le _⟩
    · exact lastE_bd (P := fun e => e.val.length ≤ N ∧ e.ops.length ≤ N) ⟨Nat.zero_le _, Nat.zero_le _⟩ k (es l) zeroE ⟨Nat.zero_le _, Nat.zero_le _⟩ (fun e he => by
        obtain ⟨x, hx, rfl⟩ := List.mem_map.1 he
        exact h x hx)
theorem results_en2 {fn : Func} {u p : Tmp} (h : fn.results = #[.cell p 28, .tmp u]) (tmps : Array Value) (w : World) (b : Nat) (x : Ex) (y : Value) (hu : tmps.getD u undef = y) (hp : tmps.getD p undef = .pointer (some ⟨b, 0, none⟩)) (hb : Bl 28 w b (xC x)) :
    (results fn tmps).run Try.prog w = .ok (.tuple #[.agg (xC x).toArray, y]) w := by
  have hr : (loadVar 28 ⟨b, 0, none⟩).run Try.prog w = .ok (.agg (xC x).toArray) w := by
    refine run_loadVar_mid w b 0 28 (xC x) _ ?_ Try.underlying28 rfl (by kernel_rfl)
    intro j v hv
    obtain ⟨hj, e⟩ := List.getElem?_eq_some_iff.1 hv
    rw [Nat.zero_add, ← e]
    exact hb.cell j hj
  have hr2 : (results fn tmps).run Try.prog w = ((asAddr (tmps.getD p undef)).run Try.prog w).andThen fun a w₁ => ((loadVar 28 a).run Try.prog w₁).andThen fun v w₂ => .ok (.tuple #[v, tmps.getD u undef]) w₂ := by
    simp only [results, h]
    simp [Sem.run_bind, Result.andThen]
  rw [hr2, hp]
  unfold asAddr
  simp only [Sem.run_pure, Result.andThen_ok]
  rw [hr, hu]
  rfl
theorem bl_otherF {t : TypeId} {w : World} {b c : Nat} {vs : List Value} {new : Array Value} (h : Bl t w b vs) (hne : b ≠ c) : Bl t (w.setRow c new) b vs := (setRow_other w c b _ hne).trans h

set_option maxHeartbeats 16000000 in
/-- The document's Find. -/
theorem rfind_any (ao : Option Addr) (cap : Nat) (l : List Ex) (k : List UInt8) (w : World) (h : LR w ao cap l) (hl : l.length ≤ 1000000000) :
    Calls Try.prog 6 #[.slice ao l.length cap, .string ⟨k.toArray⟩] w fun r w' => (∃ y : Ex, r = .returned (.tuple #[.agg (xC y).toArray, .int .i64 (ansE k (es l)).2]) ∧ y.e = (ansE k (es l)).1 ∧ XR w' y ∧ (y ∈ l ∨ y = zeroX)) ∧ Below w.heap.size w w' := by
  obtain ⟨W, hW⟩ : ∃ x, ((w.alloc (.cells #[.slice none 0 0, .int .i64 0, .string ⟨#[]⟩, .bool false, .string ⟨#[]⟩, .bool false, .string ⟨#[]⟩, .bool false, .slice none 0 0, .bool false] 28)).alloc (.cells #[.slice none 0 0, .int .i64 0, .string ⟨#[]⟩, .bool false, .string ⟨#[]⟩, .bool false, .string ⟨#[]⟩, .bool false, .slice none 0 0, .bool false] 28)) = x := ⟨_, rfl⟩
  have g1 := alloc_below w (.cells #[.slice none 0 0, .int .i64 0, .string ⟨#[]⟩, .bool false, .string ⟨#[]⟩, .bool false, .string ⟨#[]⟩, .bool false, .slice none 0 0, .bool false] 28)
  have g2 := alloc_below (w.alloc (.cells #[.slice none 0 0, .int .i64 0, .string ⟨#[]⟩, .bool false, .string ⟨#[]⟩, .bool false, .string ⟨#[]⟩, .bool false, .slice none 0 0, .bool false] 28)) (.cells #[.slice none 0 0, .int .i64 0, .string ⟨#[]⟩, .bool false, .string ⟨#[]⟩, .bool false, .string ⟨#[]⟩, .bool false, .slice none 0 0, .bool false] 28)
  have g3 : Bl 28 _ w.heap.size [.slice none 0 0, .int .i64 0, .string ⟨#[]⟩, .bool false, .string ⟨#[]⟩, .bool false, .string ⟨#[]⟩, .bool false, .slice none 0 0, .bool false] := alloc_bl w [.slice none 0 0, .int .i64 0, .string ⟨#[]⟩, .bool false, .string ⟨#[]⟩, .bool false, .string ⟨#[]⟩, .bool false, .slice none 0 0, .bool false] 28
  have g4 : Bl 28 _ _ [.slice none 0 0, .int .i64 0, .string ⟨#[]⟩, .bool false, .string ⟨#[]⟩, .bool false, .string ⟨#[]⟩, .bool false, .slice none 0 0, .bool false] := alloc_bl (w.alloc (.cells #[.slice none 0 0, .int .i64 0, .string ⟨#[]⟩, .bool false, .string ⟨#[]⟩, .bool false, .string ⟨#[]⟩, .bool false, .slice none 0 0, .bool false] 28)) [.slice none 0 0, .int .i64 0, .string ⟨#[]⟩, .bool false, .string ⟨#[]⟩, .bool false, .string ⟨#[]⟩, .bool false, .slice none 0 0, .bool false] 28
  have HBc : Hid (Bl 28 W w.heap.size [.slice none 0 0, .int .i64 0, .string ⟨#[]⟩, .bool false, .string ⟨#[]⟩, .bool false, .string ⟨#[]⟩, .bool false, .slice none 0 0, .bool false]) := by rw [← hW]; exact g3.below g2 g3.lt
  have HBz : Hid (Bl 28 W (w.heap.size + 1) (xC zeroX)) := by rw [alloc_size] at g4; rw [← hW]; exact g4
  have HBW : Hid (Below w.heap.size w W) := by rw [← hW]; exact g1.trans (g2.mono g1.size)
  have HW : Hid (((w.alloc (.cells #[.slice none 0 0, .int .i64 0, .string ⟨#[]⟩, .bool false, .string ⟨#[]⟩, .bool false, .string ⟨#[]⟩, .bool false, .slice none 0 0, .bool false] 28)).alloc (.cells #[.slice none 0 0, .int .i64 0, .string ⟨#[]⟩, .bool false, .string ⟨#[]⟩, .bool false, .string ⟨#[]⟩, .bool false, .slice none 0 0, .bool false] 28)) = W) := hW
  have H : Hid (∀ wq, Below w.heap.size w wq → LR wq ao cap l) := fun wq hq => h.below hq
  have hgi : (Try.prog.info? 28).map (·.size) = some 10 := by kernel_rfl
  clear h hW g1 g2 g3 g4
  go_enter Try.func6, Try.ntmps6
  go_upto_region 2 with fail
  rw [HW.out]
  clear HW
  go_wp2
  go_loopw [7, 8] (fun s7 s8 wx => ∃ i : Nat, s8 = .int .i64 i ∧ i ≤ l.length ∧ s7 = .int .i64 (cnt k ((es l).take i) : Nat) ∧ ∃ z : Ex, Hid (z.e = lastE k ((es l).take i) ∧ (z ∈ l ∨ z = zeroX) ∧ Bl 28 wx w.heap.size [.slice none 0 0, .int .i64 0, .string ⟨#[]⟩, .bool false, .string ⟨#[]⟩, .bool false, .string ⟨#[]⟩, .bool false, .slice none 0 0, .bool false] ∧ Bl 28 wx (w.heap.size + 1) (xC z) ∧ Below w.heap.size w wx)) (fun _ s _ => l.length - (intOf s).toNat)
  case atStart => exact ⟨0, rfl, Nat.zero_le _, rfl, zeroX, rfl, .inr rfl, HBc.out, HBz.out, HBW.out⟩
  case round =>
    clear HBc HBz HBW
    obtain ⟨i, rfl, hi, rfl, z, HZ⟩ := hrel
    by_cases hlt : i < l.length
    · have q0 : decide ((i : Int) < (l.length : Int)) = true := decide_eq_true (by omega)
      have q1 : (i : Int) < (l.length : Int) := by omega
      have qc : cnt k ((es l).take i) ≤ 1000000000 := Nat.le_trans (cnt_le _ _) (by rw [List.length_take]; omega)
      obtain ⟨x, hx⟩ : ∃ x, l[i]? = some x := ⟨_, List.getElem?_eq_getElem hlt⟩
      have R1 := H.out wr HZ.out.2.2.2.2
      obtain ⟨g1, o1, rfl, p0, p1, p2, p3, p4, p5, p6, p7, p8, p9⟩ := R1.at hx
      have HT : Hid ((es l).take (i + 1) = (es l).take i ++ [x.e]) := es_take hx
      have HXm : Hid (x ∈ l) := List.mem_of_getElem? hx
      clear hx R1
      by_cases hh : hit k x.e = true
      · obtain ⟨⟨val, kty, kid, hKid, use, hUse, alg, hAlg, ops, hOps⟩, xva, xvc, xaa, xac⟩ := x
        have h12 : hKid = true ∧ k = kid := by
          have h3 := hh
          simp only [hit, Bool.and_eq_true, beq_iff_eq] at h3
          exact ⟨h3.1, h3.2.symm⟩
        obtain ⟨rfl, rfl⟩ := h12
        dsimp only at p0 p1 p2 p3 p4 p5 p6 p7 p8 p9 HT hh
        have HC : Hid (cnt k ((es l).take (i + 1)) = cnt k ((es l).take i) + 1) := by show _ = _; rw [HT.out, cnt_snoc, if_pos hh]
        have HL : Hid ((⟨val, kty, k, true, use, hUse, alg, hAlg, ops, hOps⟩ : En) = lastE k ((es l).take (i + 1))) := by show _ = _; rw [HT.out, lastE_snoc, if_pos hh]
        have hbz := HZ.out.2.2.2.1
        obtain ⟨wz, hwz⟩ : ∃ wz, wr.setRow (w.heap.size + 1) (xC ⟨⟨val, kty, k, true, use, hUse, alg, hAlg, ops, hOps⟩, xva, xvc, xaa, xac⟩).toArray = wz := ⟨_, rfl⟩
        have HZ2 : Hid ((⟨val, kty, k, true, use, hUse, alg, hAlg, ops, hOps⟩ : En) = lastE k ((es l).take (i + 1)) ∧ ((⟨⟨val, kty, k, true, use, hUse, alg, hAlg, ops, hOps⟩, xva, xvc, xaa, xac⟩ : Ex) ∈ l ∨ (⟨⟨val, kty, k, true, use, hUse, alg, hAlg, ops, hOps⟩, xva, xvc, xaa, xac⟩ : Ex) = zeroX) ∧ Bl 28 wz w.heap.size [.slice none 0 0, .int .i64 0, .string ⟨#[]⟩, .bool false, .string ⟨#[]⟩, .bool false, .string ⟨#[]⟩, .bool false, .slice none 0 0, .bool false] ∧ Bl 28 wz (w.heap.size + 1) (xC ⟨⟨val, kty, k, true, use, hUse, alg, hAlg, ops, hOps⟩, xva, xvc, xaa, xac⟩) ∧ Below w.heap.size w wz) := by
          rw [← hwz]
          exact ⟨HL.out, .inl HXm.out, bl_otherF HZ.out.2.2.1 (by omega), set_bl2 hbz, setRow_below2 _ HZ.out.2.2.2.2 (by omega)⟩
        have HWz : Hid (wr.setRow (w.heap.size + 1) (xC ⟨⟨val, kty, k, true, use, hUse, alg, hAlg, ops, hOps⟩, xva, xvc, xaa, xac⟩).toArray = wz) := hwz
        have HBX : Hid (Bl 28 wr (w.heap.size + 1) (xC z)) := hbz
        clear hwz hbz hh HT HL
        go_wp2_with (refine wpList_store_row rfl 28 (.tmp 6) (.tmp 32) rfl (w.heap.size + 1) (xC ⟨⟨val, kty, k, true, use, hUse, alg, hAlg, ops, hOps⟩, xva, xvc, xaa, xac⟩).toArray rfl rfl 28 (xC z).toArray HBX.out hgi rfl (by simp [xC, Value.oneCell']) ?_; rw [HWz.out]; clear HWz HBX)
        go_roundw
        case rel => exact ⟨i + 1, by go_num, by omega, by rw [HC.out]; go_num, ⟨⟨val, kty, k, true, use, hUse, alg, hAlg, ops, hOps⟩, xva, xvc, xaa, xac⟩, HZ2⟩
        case measure => simp [intOf]; omega
      · have HC : Hid (cnt k ((es l).take (i + 1)) = cnt k ((es l).take i)) := by show _ = _; rw [HT.out, cnt_snoc, if_neg hh]; rfl
        have HZ2 : Hid (z.e = lastE k ((es l).take (i + 1)) ∧ (z ∈ l ∨ z = zeroX) ∧ Bl 28 wr w.heap.size [.slice none 0 0, .int .i64 0, .string ⟨#[]⟩, .bool false, .string ⟨#[]⟩, .bool false, .string ⟨#[]⟩, .bool false, .slice none 0 0, .bool false] ∧ Bl 28 wr (w.heap.size + 1) (xC z) ∧ Below w.heap.size w wr) := by
          refine ⟨?_, HZ.out.2⟩
          rw [HT.out, lastE_snoc, if_neg hh]
          exact HZ.out.1
        clear HT
        by_cases h1 : x.e.hKid = true
        · have h2 : (x.e.kid == k) = false := by unfold hit at hh; rw [h1, Bool.true_and] at hh; simpa using hh
          clear hh HZ
          go_wp2
          go_roundw
          case rel => exact ⟨i + 1, by go_num, by omega, by rw [HC.out], z, HZ2⟩
          case measure => simp [intOf]; omega
        · have h1 : x.e.hKid = false := by simpa using h1
          clear hh HZ
          go_wp2
          go_roundw
          case rel => exact ⟨i + 1, by go_num, by omega, by rw [HC.out], z, HZ2⟩
          case measure => simp [intOf]; omega
    · have q0 : decide ((i : Int) < (l.length : Int)) = false := decide_eq_false (by omega)
      obtain rfl : i = l.length := by omega
      rw [es_all] at HZ
      rw [es_all]
      obtain ⟨c, hc⟩ : ∃ c, cnt k (es l) = c := ⟨_, rfl⟩
      rw [hc]
      have HA : Hid (ansE k (es l) = if c = 0 then (zeroE, 103) else if 1 < c then (zeroE, 104) else (lastE k (es l), 0)) := by show _ = _; unfold ansE; rw [hc]
      have hbz := HZ.out.2.2.1
      have HR : Hid (XR wr z) := by
        rcases HZ.out.2.1 with h | h
        · exact (H.out wr HZ.out.2.2.2.2).rd _ h
        · rw [h]; exact zeroX_rd _
      have HWB : Hid (Below w.heap.size w wr) := HZ.out.2.2.2.2
      have HBX : Hid (Bl 28 wr w.heap.size [.slice none 0 0, .int .i64 0, .string ⟨#[]⟩, .bool false, .string ⟨#[]⟩, .bool false, .string ⟨#[]⟩, .bool false, .slice none 0 0, .bool false]) := hbz
      have HZE : Hid (z.e = lastE k (es l)) := HZ.out.1
      have HZM : Hid (z ∈ l ∨ z = zeroX) := HZ.out.2.1
      have pz := bl_rng2 HZ.out.2.2.2.1
      have kz := HZ.out.2.2.2.1
      unfold xC at kz pz
      have HK : Hid (Bl 28 wr (w.heap.size + 1) [.slice z.va z.e.val.length z.vc, .int .i64 z.e.kty, .string ⟨z.e.kid.toArray⟩, .bool z.e.hKid, .string ⟨z.e.use.toArray⟩, .bool z.e.hUse, .string ⟨z.e.alg.toArray⟩, .bool z.e.hAlg, .slice z.aa z.e.ops.length z.ac, .bool z.e.hOps]) := kz
      clear hc hbz HZ kz
      by_cases hc0 : c = 0
      · have q1 : ((c : Int) == 0) = true := by simp [hc0]
        have HA2 : Hid (ansE k (es l) = (zeroE, 103)) := by show _ = _; rw [HA.out, if_pos hc0]
        obtain ⟨wz, hwz⟩ : ∃ wz, wr.setRow w.heap.size (xC zeroX).toArray = wz := ⟨_, rfl⟩
        have HBz : Hid (Bl 28 wz w.heap.size (xC zeroX)) := by rw [← hwz]; exact set_bl2 HBX.out
        have HB2 : Hid (Below w.heap.size w wz) := by rw [← hwz]; exact setRow_below2 _ HWB.out (Nat.le_refl _)
        have HWz : Hid (wr.setRow w.heap.size (xC zeroX).toArray = wz) := hwz
        clear hwz
        go_wp2_with (refine wpList_store_row rfl 28 (.tmp 4) (.tmp 37) rfl w.heap.size (xC zeroX).toArray rfl rfl 28 ([.slice none 0 0, .int .i64 0, .string ⟨#[]⟩, .bool false, .string ⟨#[]⟩, .bool false, .string ⟨#[]⟩, .bool false, .slice none 0 0, .bool false] : List Value).toArray HBX.out hgi rfl (by simp [xC, zeroX, Value.oneCell']) ?_; rw [HWz.out]; clear HWz HBX)
        (try simp only [Exit.inBlock, Exit.then])
        refine bodyPost_ret (v := .tuple #[.agg (xC zeroX).toArray, .int .i64 103]) (results_en2 rfl _ _ w.heap.size zeroX _ rfl rfl HBz.out) rfl ⟨⟨zeroX, ?_, ?_, zeroX_rd _, .inr rfl⟩, HB2.out⟩
        · rw [HA2.out]
        · rw [HA2.out]; rfl
      · have q1 : ((c : Int) == 0) = false := by simp; omega
        by_cases hc1 : 1 < c
        · have q2 : decide ((c : Int) > 1) = true := decide_eq_true (by omega)
          have HA2 : Hid (ansE k (es l) = (zeroE, 104)) := by show _ = _; rw [HA.out, if_neg hc0, if_pos hc1]
          obtain ⟨wz, hwz⟩ : ∃ wz, wr.setRow w.heap.size (xC zeroX).toArray = wz := ⟨_, rfl⟩
          have HBz : Hid (Bl 28 wz w.heap.size (xC zeroX)) := by rw [← hwz]; exact set_bl2 HBX.out
          have HB2 : Hid (Below w.heap.size w wz) := by rw [← hwz]; exact setRow_below2 _ HWB.out (Nat.le_refl _)
          have HWz : Hid (wr.setRow w.heap.size (xC zeroX).toArray = wz) := hwz
          clear hwz
          go_wp2_with (refine wpList_store_row rfl 28 (.tmp 4) (.tmp 40) rfl w.heap.size (xC zeroX).toArray rfl rfl 28 ([.slice none 0 0, .int .i64 0, .string ⟨#[]⟩, .bool false, .string ⟨#[]⟩, .bool false, .string ⟨#[]⟩, .bool false, .slice none 0 0, .bool false] : List Value).toArray HBX.out hgi rfl (by simp [xC, zeroX, Value.oneCell']) ?_; rw [HWz.out]; clear HWz HBX)
          (try simp only [Exit.inBlock, Exit.then])
          refine bodyPost_ret (v := .tuple #[.agg (xC zeroX).toArray, .int .i64 104]) (results_en2 rfl _ _ w.heap.size zeroX _ rfl rfl HBz.out) rfl ⟨⟨zeroX, ?_, ?_, zeroX_rd _, .inr rfl⟩, HB2.out⟩
          · rw [HA2.out]
          · rw [HA2.out]; rfl
        · have q2 : decide ((c : Int) > 1) = false := decide_eq_false (by omega)
          have HA2 : Hid (ansE k (es l) = (lastE k (es l), 0)) := by show _ = _; rw [HA.out, if_neg hc0, if_neg hc1]
          obtain ⟨wz, hwz⟩ : ∃ wz, wr.setRow w.heap.size (xC z).toArray = wz := ⟨_, rfl⟩
          have HBz : Hid (Bl 28 wz w.heap.size (xC z)) := by rw [← hwz]; exact set_bl2 HBX.out
          have HB2 : Hid (Below w.heap.size w wz) := by rw [← hwz]; exact setRow_below2 _ HWB.out (Nat.le_refl _)
          have HR2 : Hid (XR wz z) := by
            rcases HZM.out with h | h
            · exact (H.out wz HB2.out).rd _ h
            · rw [h]; exact zeroX_rd _
          have HWz : Hid (wr.setRow w.heap.size (xC z).toArray = wz) := hwz
          clear hwz
          go_wp2_with (first | (refine wpList_load_mid rfl 28 (.tmp 6) rfl (w.heap.size + 1) 0 rfl [.slice z.va z.e.val.length z.vc, .int .i64 z.e.kty, .string ⟨z.e.kid.toArray⟩, .bool z.e.hKid, .string ⟨z.e.use.toArray⟩, .bool z.e.hUse, .string ⟨z.e.alg.toArray⟩, .bool z.e.hAlg, .slice z.aa z.e.ops.length z.ac, .bool z.e.hOps] _ pz Try.underlying28 rfl hgi ?_) | (refine wpList_store_row rfl 28 (.tmp 4) (.tmp 41) rfl w.heap.size (xC z).toArray rfl rfl 28 ([.slice none 0 0, .int .i64 0, .string ⟨#[]⟩, .bool false, .string ⟨#[]⟩, .bool false, .string ⟨#[]⟩, .bool false, .slice none 0 0, .bool false] : List Value).toArray HBX.out hgi rfl (by simp [xC, Value.oneCell']) ?_; rw [HWz.out]; clear HWz HBX))
          (try simp only [Exit.inBlock, Exit.then])
          refine bodyPost_ret (v := .tuple #[.agg (xC z).toArray, .int .i64 0]) (results_en2 rfl _ _ w.heap.size z _ rfl rfl HBz.out) rfl ⟨⟨z, ?_, ?_, HR2.out, HZM.out⟩, HB2.out⟩
          · rw [HA2.out]
          · rw [HA2.out]; exact HZE.out

end Go.Proofs.Ytkfchdmlemcjhaa
