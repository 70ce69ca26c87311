import Derived.Test.YtjehkpndchadbaaGreatDoorCZ
import Derived.Test.YtjehkpndchadbaaGreatDoorTY
import Derived.Test.YtjehkpndchadbaaGreatDoorYZ
import Derived.Test.YtjehkpndchadbaaGreatDoorSZ
namespace Go.Proofs.YtjehkpndchadbaaGreatDoor
open Go.RowKit

/-- The names of an object's members are unlike. -/
theorem kids_nodup {v : List Nd} (h : Sq 0 [[]] v) (hl : v.length ≤ 1000000000) (h7 : (v.getD 0 (nd0 0)).kind = 7) (hp : 0 < v.length) : ((kidsF v 0).map (fun i => (v.getD i (nd0 0)).key)).Nodup := by
  obtain ⟨d, n, ks, r, pre, post, hd, hv, hpl0, hw, hr, hn, hk⟩ := h.at 0 hp
  have hg : v.getD 0 (nd0 0) = n := by rw [hv, ← hpl0]; simp
  have hpl : (pre ++ [n]).length = 0 + 1 := by simp [hpl0]
  have hkid := hr.kids (pre ++ [n]) post v (v.length + 1) (by rw [hv]; simp) (by omega) (by omega)
  rw [hpl, ← hn] at hkid
  have hkF : kidsF v 0 = kidsL v (v.length + 1) (0 + 1) n.kids := by
    unfold kidsF
    rw [if_pos ⟨by omega, by omega⟩]
    show kidsL v (v.length + 1) (0 + 1) (v.getD 0 (nd0 0)).kids = _
    rw [hg]
  rw [hkF, hkid.2]
  rw [hg] at h7
  exact (hk.2 h7).2
theorem mem_ge {v : List Nd} (h7 : (v.getD 0 (nd0 0)).kind = 7) (hp : 0 < v.length) (x : List UInt8) : (0 ≤ memF v 0 x) ↔ ∃ k ∈ kidsF v 0, (v.getD k (nd0 0)).key = x := by
  have e : memF v 0 x = memL v x (kidsF v 0) := by
    unfold memF
    exact if_pos ⟨by omega, by omega, h7⟩
  rw [e]
  constructor
  · intro h
    rcases memL_in v x (kidsF v 0) with h1 | ⟨k, hk, _, e2⟩
    · omega
    · exact ⟨k, hk, e2⟩
  · rintro ⟨k, hk, e2⟩
    rcases memL_in v x (kidsF v 0) with h1 | ⟨k2, _, e3, _⟩
    · exact absurd e2 (memL_none v x _ h1 k hk)
    · omega
theorem mem_no {v : List Nd} (h7 : (v.getD 0 (nd0 0)).kind ≠ 7) (x : List UInt8) : memF v 0 x = -1 := by
  unfold memF
  exact if_neg (fun h => h7 h.2.2)

/-- The entries of the map of names. -/
def enL (v : List Nd) : List Nat → Nat → List MapEntry
  | [], _ => []
  | k :: r, b => ⟨.string ⟨(v.getD k (nd0 0)).key.toArray⟩, .int .i64 (k : Int), b⟩ :: enL v r (b + 1)
theorem enL_push (v : List Nd) (k : Nat) : ∀ (L : List Nat) (b : Nat), enL v (L ++ [k]) b = enL v L b ++ [⟨.string ⟨(v.getD k (nd0 0)).key.toArray⟩, .int .i64 (k : Int), b + L.length⟩]
  | [], b => rfl
  | x :: r, b => by
    show _ :: enL v (r ++ [k]) (b + 1) = _
    rw [enL_push v k r (b + 1)]
    simp [enL]
    omega
theorem bytes_ne {a b : List UInt8} (h : a ≠ b) : ((⟨a.toArray⟩ : ByteArray) == ⟨b.toArray⟩) = false := by
  rw [beq_toListBytes]
  simpa using h
theorem bytes_eq (a : List UInt8) : ((⟨a.toArray⟩ : ByteArray) == ⟨a.toArray⟩) = true := by
  rw [beq_toListBytes]
  simp
theorem find_en (v : List Nd) (x : List UInt8) : ∀ (L : List Nat) (b i : Nat), ((∀ k ∈ L, (v.getD k (nd0 0)).key ≠ x) ∧ Instr.findNow .string (.string ⟨x.toArray⟩) (enL v L b) i = some none) ∨ ((∃ k ∈ L, (v.getD k (nd0 0)).key = x) ∧ ∃ (j m : Nat), Instr.findNow .string (.string ⟨x.toArray⟩) (enL v L b) i = some (some (j, .int .i64 (m : Int))))
  | [], _, _ => .inl ⟨by simp, rfl⟩
  | k :: r, b, i => by
    by_cases hk : (v.getD k (nd0 0)).key = x
    · refine .inr ⟨⟨k, by simp, hk⟩, i, k, ?_⟩
      simp [enL, Instr.findNow, Instr.sameNow]
      rw [← List.getD_eq_getElem?_getD, hk]
      simp [bytes_eq]
    · have hne : x ≠ (v.getD k (nd0 0)).key := fun e => hk e.symm
      have he : Instr.findNow .string (.string ⟨x.toArray⟩) (enL v (k :: r) b) i = Instr.findNow .string (.string ⟨x.toArray⟩) (enL v r (b + 1)) (i + 1) := by
        show (match Instr.sameNow .string (.string ⟨x.toArray⟩) (.string ⟨(v.getD k (nd0 0)).key.toArray⟩) with
          | some true => _
          | some false => _
          | none => _) = _
        have : Instr.sameNow .string (.string ⟨x.toArray⟩) (.string ⟨(v.getD k (nd0 0)).key.toArray⟩) = some false := by
          show some _ = _
          rw [bytes_ne hne]
        rw [this]
      rw [he]
      rcases find_en v x r (b + 1) (i + 1) with ⟨h1, h2⟩ | ⟨⟨k2, h3, h4⟩, h5⟩
      · refine .inl ⟨fun y hy => ?_, h2⟩
        rcases List.mem_cons.1 hy with rfl | hy
        · exact hk
        · exact h1 y hy
      · exact .inr ⟨⟨k2, List.mem_cons_of_mem _ h3, h4⟩, h5⟩

theorem und_mint : Tryz.prog.underlying 74 = some (.map 9 3) := by kernel_rfl
theorem und_str : Tryz.prog.underlying 9 = some .string := by kernel_rfl
theorem check_str (e : Bool) (x : ByteArray) (w : World) : (Instr.checkKey e 10000 9 (.string x)).run Tryz.prog w = .ok () w := by
  unfold Instr.checkKey
  simp only [Sem.run_bind, run_underlying und_str, Result.andThen_ok]
  rfl
theorem find_str (x : ByteArray) (es : List MapEntry) (w : World) {r : Option (Nat × Value)} (h : Instr.findNow .string (.string x) es 0 = some r) : (Instr.findKey 9 (.string x) es).run Tryz.prog w = .ok r w := by
  unfold Instr.findKey
  simp only [Sem.run_bind, run_underlying und_str, Result.andThen_ok, h]
  rfl
theorem upd_int (w : World) (mb : Nat) (es : List MapEntry) (clk : Nat) (x : ByteArray) (v : Value) (hw : w.heap[mb]? = some (.map es.toArray clk)) (h : Instr.findNow .string (.string x) es 0 = some none) :
    (Instr.mapUpdate 74 (.map (some mb)) (.string x) v).run Tryz.prog w = .ok () (mW w mb (es.toArray.push ⟨.string x, v, clk⟩) (clk + 1)) := by
  unfold Instr.mapUpdate
  simp only [Sem.run_bind, run_underlying und_mint, Result.andThen_ok, run_getObj' w mb _ _ hw, check_str, find_str x _ w h, run_setObj' w mb _ _ _ _ hw]
theorem look_int (w : World) (mb : Nat) (es : List MapEntry) (clk : Nat) (x : ByteArray) (i : Nat) (v : Value) (hw : w.heap[mb]? = some (.map es.toArray clk)) (h : Instr.findNow .string (.string x) es 0 = some (some (i, v))) :
    (Instr.lookup 74 (.map (some mb)) (.string x) true).run Tryz.prog w = .ok (.tuple #[v, .bool true]) w := by
  unfold Instr.lookup
  simp only [Sem.run_bind, run_underlying und_mint, Result.andThen_ok, run_getObj' w mb _ _ hw, Sem.run_pure, check_str, find_str x _ w h]
  rfl
theorem zero_int9 (w : World) : (zeroValue 3).run Tryz.prog w = .ok (.int .i64 0) w := by kernel_rfl
theorem look_int0 (w : World) (mb : Nat) (es : List MapEntry) (clk : Nat) (x : ByteArray) (hw : w.heap[mb]? = some (.map es.toArray clk)) (h : Instr.findNow .string (.string x) es 0 = some none) :
    (Instr.lookup 74 (.map (some mb)) (.string x) true).run Tryz.prog w = .ok (.tuple #[.int .i64 0, .bool false]) w := by
  unfold Instr.lookup
  simp only [Sem.run_bind, run_underlying und_mint, Result.andThen_ok, run_getObj' w mb _ _ hw, Sem.run_pure, check_str, find_str x _ w h, zero_int9]
  rfl

/-- Is there a member of that name? -/
def hasF (l : List Nd) (x : List UInt8) : Bool := shapedF l && decide (0 ≤ memF l 0 x)
/-- A map that holds just the names. -/
def NmM (w : World) (mb : Nat) (l : List Nd) : Prop := ∃ (es : List MapEntry) (clk : Nat), w.heap[mb]? = some (.map es.toArray clk) ∧
  ∀ x, (hasF l x = false ∧ Instr.findNow .string (.string ⟨x.toArray⟩) es 0 = some none) ∨ (hasF l x = true ∧ ∃ (j m : Nat), Instr.findNow .string (.string ⟨x.toArray⟩) es 0 = some (some (j, .int .i64 (m : Int))))
theorem NmM.below {w w' : World} {mb : Nat} {l : List Nd} (h : NmM w mb l) (hb : Below w.heap.size w w') : NmM w' mb l := by
  obtain ⟨es, clk, h1, h2⟩ := h
  exact ⟨es, clk, (hb.block mb (Array.getElem?_eq_some_iff.1 h1).1).trans h1, h2⟩
theorem nmm_empty {w : World} {mb clk : Nat} {l : List Nd} (h : w.heap[mb]? = some (.map #[] clk)) (hf : ∀ x, hasF l x = false) : NmM w mb l := ⟨[], clk, h, fun x => .inl ⟨hf x, rfl⟩⟩
theorem nmm_full {w : World} {mb clk : Nat} {l : List Nd} (h : w.heap[mb]? = some (.map (enL l (kidsF l 0) 0).toArray clk)) (hs : shapedF l = true) (h7 : (l.getD 0 (nd0 0)).kind = 7) (hp : 0 < l.length) : NmM w mb l := by
  refine ⟨_, clk, h, fun x => ?_⟩
  rcases find_en l x (kidsF l 0) 0 0 with ⟨h1, h2⟩ | ⟨h1, h2⟩
  · refine .inl ⟨?_, h2⟩
    unfold hasF
    rw [hs, decide_eq_false (fun h => by obtain ⟨k, a, b⟩ := (mem_ge h7 hp x).1 h; exact h1 k a b)]
    rfl
  · refine .inr ⟨?_, h2⟩
    unfold hasF
    rw [hs, decide_eq_true ((mem_ge h7 hp x).2 h1)]
    rfl

set_option maxRecDepth 100000 in
set_option maxHeartbeats 8000000 in
theorem names_any (l : List Nd) (ao : Option Addr) (cap : Nat) (w : World) (h : NR w (.slice ao l.length cap) l ao cap) (hG : GL w.heap.size w) (ht : TB l) (hl : l.length ≤ 1000000000) :
    Calls Tryz.prog 29 #[.slice ao l.length cap] w fun e w' => ∃ mb, e = .returned (.map (some mb)) ∧ NmM w' mb l ∧ Below w.heap.size w w' := by
  obtain ⟨w0, hw0⟩ : ∃ W : World, W = w.alloc (.map #[] 0) := ⟨_, rfl⟩
  have r0 : (Instr.makeMap 74 none).run Tryz.prog w = .ok (.map (some w.heap.size)) w0 := by rw [hw0]; rfl
  have hm0 : w0.heap[w.heap.size]? = some (.map #[] 0) := by rw [hw0]; unfold World.alloc; simp
  have hB0 : Below w.heap.size w w0 := by rw [hw0]; exact alloc_below _ _
  have HB0 : Hid (Below w.heap.size w w0) := hB0
  have HM0 : Hid (w0.heap[w.heap.size]? = some (.map #[] 0)) := hm0
  have CS := shaped_any _ l ao cap w0 (h.below hB0 (Nat.le_refl _)) ((hG.below hB0).up hB0.size) ht hl
  have HN : Hid (NR w0 (.slice ao l.length cap) l ao cap) := h.below hB0 (Nat.le_refl _)
  clear hw0 hm0 hB0 hG ht h
  obtain ⟨mb, hmb⟩ : ∃ b, w.heap.size = b := ⟨_, rfl⟩
  have HMB : Hid (w.heap.size = mb) := hmb
  rw [hmb] at HM0 r0
  clear hmb
  cases hs : shapedF l
  · rw [hs] at CS
    have HF : Hid (∀ x, hasF l x = false) := fun x => by unfold hasF; rw [hs]; rfl
    clear hs HN
    go_enter Tryz.func29, Tryz.ntmps29
    go_wp2_with fail
    refine CS.mono ?_
    clear CS r0
    rintro e w1 ⟨rfl, hB⟩
    have HM1 : Hid (w1.heap[mb]? = some (.map #[] 0)) := (hB.block mb (Array.getElem?_eq_some_iff.1 HM0.out).1).trans HM0.out
    have HB1 : Hid (Below w.heap.size w w1) := HB0.out.trans (hB.mono HB0.out.size)
    clear hB HM0 HB0
    go_wp2
    go_ret
    exact ⟨mb, rfl, nmm_empty HM1.out HF.out, HB1.out⟩
  · rw [hs] at CS
    have HSQ : Hid (Sq 0 [[]] l) := shaped_sq hs
    have hpos : 0 < l.length := by have := HSQ.out.len; simp only [List.length_cons, List.length_nil] at this; omega
    obtain ⟨g, off, rfl, hcell⟩ := HN.out.at hpos
    obtain ⟨K, hK⟩ : ∃ K, (l.getD 0 (nd0 0)).kind = K := ⟨_, rfl⟩
    have HCK : Hid (∀ wq, Below w0.heap.size w0 wq → wq.cell? ⟨g, off, none⟩ = some (.int .i64 K)) := fun wq hq => by
      obtain ⟨g', off', e', hc'⟩ := (HN.out.below hq (Nat.le_refl _)).at hpos
      cases e'
      have := hc' 0 (.int .i64 K) (by omega) (by rw [← hK]; rfl)
      simpa only [Nat.zero_mul, Nat.add_zero] using this
    have hbv : 0 < (l.length : Int) := by omega
    clear hcell
    by_cases h7 : K = 7
    · subst h7
      have HFU : Hid (∀ (wq : World) (clk : Nat), wq.heap[mb]? = some (.map (enL l (kidsF l 0) 0).toArray clk) → NmM wq mb l) := fun wq clk h => nmm_full h hs hK hpos
      have HND : Hid (((kidsF l 0).map (fun i => (l.getD i (nd0 0)).key)).Nodup) := kids_nodup HSQ.out hl hK hpos
      have HKs : Hid (∀ wq, NR wq (.slice (some ⟨g, off, none⟩) l.length cap) l (some ⟨g, off, none⟩) cap → Calls Tryz.prog 12 #[.slice (some ⟨g, off, none⟩) l.length cap, .int .i64 0] wq fun e w' => ∃ r, e = .returned r ∧ OI wq.heap.size wq w' r (kidsF l 0)) := fun wq hq => kids_any _ l _ cap 0 wq hq hl
      have HLT : Hid (∀ i ∈ kidsF l 0, i < l.length) := kidsF_lt
      have hlen : (kidsF l 0).length ≤ 1000000000 := Nat.le_trans kids_len hl
      generalize kidsF l 0 = L at *
      clear hs hK HSQ
      go_enter Tryz.func29, Tryz.ntmps29
      go_wp2_with fail
      refine CS.mono ?_
      clear CS r0
      rintro e w1 ⟨rfl, hB⟩
      have ck := HCK.out w1 hB
      have HM1 : Hid (w1.heap[mb]? = some (.map #[] 0)) := (hB.block mb (Array.getElem?_eq_some_iff.1 HM0.out).1).trans HM0.out
      have HB1 : Hid (Below w.heap.size w w1) := HB0.out.trans (hB.mono HB0.out.size)
      have HN1 : Hid (NR w1 (.slice (some ⟨g, off, none⟩) l.length cap) l (some ⟨g, off, none⟩) cap) := HN.out.below hB (Nat.le_refl _)
      have HGm : Hid (g < mb ∨ g ≠ mb) := .inr (fun e => by
        have hc := ck
        rw [e] at hc
        unfold World.cell? at hc
        rw [HM1.out] at hc
        cases hc)
      have CK := HKs.out w1 HN1.out
      clear hB HM0 HB0 HN HCK HKs
      go_wp2_with fail
      refine CK.mono ?_
      clear CK ck
      rintro e w2 ⟨r, rfl, hoi⟩
      obtain ⟨ka, kc, rfl, hkc, hkat⟩ := hoi.at
      have HM2 : Hid (w2.heap[mb]? = some (.map #[] 0)) := (hoi.bel.block mb (Array.getElem?_eq_some_iff.1 HM1.out).1).trans HM1.out
      have hmlt : mb < w1.heap.size := (Array.getElem?_eq_some_iff.1 HM1.out).1
      have HAT : Hid (∀ wx, But w2 wx mb → ∀ j, j < L.length → ∃ g, ka = some ⟨g, 0, none⟩ ∧ wx.cell? ⟨g, j, none⟩ = some (iV (L.getD j 0))) := fun wx hx j hj => by
        obtain ⟨g', e, hc⟩ := hkat j hj
        refine ⟨g', e, cell_but hc fun _ => hx.block g' (World.block_lt_of_cell? _ _ hc) ?_⟩
        have h1 := (hoi.own.lt g' (by rw [e]; rfl)).1
        omega
      have HN2 : Hid (∀ wx, But w2 wx mb → NR wx (.slice (some ⟨g, off, none⟩) l.length cap) l (some ⟨g, off, none⟩) cap) := fun wx hx => by
        have h2 := HN1.out.below hoi.bel (Nat.le_refl _)
        refine ⟨h2.val, h2.cap, ?_⟩
        rcases h2.cell with h0 | ⟨g', off', e, hg, hc⟩
        · exact .inl h0
        · cases e
          exact .inr ⟨g, off, rfl, Nat.lt_of_lt_of_le hg hx.size, fun j u hu => cell_but (hc j u hu) fun _ => hx.block g hg (HGm.out.elim (fun h => by omega) id)⟩
      have HB2 : Hid (Below w.heap.size w w2) := HB1.out.trans (hoi.bel.mono HB1.out.size)
      have HMW : Hid (w.heap.size ≤ mb) := Nat.le_of_eq HMB.out
      clear hoi hkat HN1 HB1 HM1 hmlt HGm
      go_wp2
      go_loopw [21] (fun s21 wx => ∃ (j : Nat), s21 = .int .i64 j ∧ j ≤ L.length ∧ But w2 wx mb ∧ wx.heap[mb]? = some (.map (enL l (L.take j) 0).toArray j)) (fun x _ => L.length - (intOf x).toNat)
      case atStart => exact ⟨0, rfl, Nat.zero_le _, But.refl _ _, HM2.out⟩
      case round =>
        obtain ⟨j, rfl, hj, hb, hm⟩ := hrel
        have HBr : Hid (But w2 wr mb) := hb
        have HMr : Hid (wr.heap[mb]? = some (.map (enL l (L.take j) 0).toArray j)) := hm
        clear hb hm
        by_cases hjl : j < L.length
        · have q1 : decide ((j : Int) < (L.length : Int)) = true := by simp; omega
          obtain ⟨kg, rfl, ckj⟩ := HAT.out wr HBr.out j hjl
          have hkl : L.getD j 0 < l.length := HLT.out _ (by rw [List.getD_eq_getElem?_getD, List.getElem?_eq_getElem hjl]; exact List.getElem_mem hjl)
          obtain ⟨g2, off2, e2, hc3⟩ := (HN2.out wr HBr.out).at hkl
          cases e2
          have htk : L.take (j + 1) = L.take j ++ [L.getD j 0] := by
            rw [List.take_add_one, List.getElem?_eq_getElem hjl]
            simp [List.getD_eq_getElem?_getD, hjl]
          have hfresh : ∀ k ∈ L.take j, (l.getD k (nd0 0)).key ≠ (l.getD (L.getD j 0) (nd0 0)).key := by
            intro k hk e
            have hnd := HND.out
            rw [← List.take_append_drop j L, List.map_append, List.drop_eq_getElem_cons hjl, List.map_cons] at hnd
            have e3 : L.getD j 0 = L[j] := by rw [List.getD_eq_getElem?_getD, List.getElem?_eq_getElem hjl]; rfl
            rw [e3] at e
            exact (List.nodup_append.1 hnd).2.2 _ (List.mem_map.2 ⟨k, hk, rfl⟩) _ (List.mem_cons_self) e
          have hlt' : (L.take j).length = j := by simp; omega
          have hpu := enL_push l (L.getD j 0) (L.take j) 0
          rw [← htk, hlt', Nat.zero_add] at hpu
          generalize L.getD j 0 = m at *
          obtain ⟨y, hy⟩ : ∃ y, (l.getD m (nd0 0)).key = y := ⟨_, rfl⟩
          have ck1 := hc3 1 (.string ⟨y.toArray⟩) (by omega) (by rw [← hy]; rfl)
          rw [hy] at hfresh hpu
          have hfn : Instr.findNow .string (.string ⟨y.toArray⟩) (enL l (L.take j) 0) 0 = some none := by
            rcases find_en l y (L.take j) 0 0 with ⟨_, h2⟩ | ⟨⟨k, hk, e⟩, _⟩
            · exact h2
            · exact absurd e (hfresh k hk)
          have hup := upd_int wr mb (enL l (L.take j) 0) j ⟨y.toArray⟩ (.int .i64 (m : Int)) HMr.out hfn
          obtain ⟨wz, hwz⟩ : ∃ wz, mW wr mb ((enL l (L.take j) 0).toArray.push ⟨.string ⟨y.toArray⟩, .int .i64 (m : Int), j⟩) (j + 1) = wz := ⟨_, rfl⟩
          have HBz : Hid (But w2 wz mb) := by rw [← hwz]; exact HBr.out.trans (mW_but _ _ _ _)
          have HMz : Hid (wz.heap[mb]? = some (.map (enL l (L.take (j + 1)) 0).toArray (j + 1))) := by
            rw [← hwz]
            refine (mW_at _ _ _ _ (Array.getElem?_eq_some_iff.1 HMr.out).1).trans ?_
            rw [hpu]
            simp
          rw [hwz] at hup
          unfold iV at ckj
          clear hc3 hfresh hpu htk hlt' hfn hwz hy HBr HMr
          go_wp2
          go_roundw
          case rel => exact ⟨j + 1, by go_num, by omega, HBz.out, HMz.out⟩
          case measure => simp [intOf]; omega
        · have q1 : decide ((j : Int) < (L.length : Int)) = false := by simp; omega
          have HX : Hid (NmM wr mb l) := HFU.out wr j (by have := HMr.out; rwa [List.take_of_length_le (by omega)] at this)
          have HBz : Hid (Below w.heap.size w wr) := HB2.out.trans (HBr.out.below HB2.out.size HMW.out)
          go_wp2
          go_ret
          exact ⟨mb, rfl, HX.out, HBz.out⟩
    · have q7 : (K != 7) = true := by simpa using h7
      have HF : Hid (∀ x, hasF l x = false) := fun x => by unfold hasF; rw [mem_no (by rw [hK]; exact h7)]; simp
      clear hs hK HSQ h7 HN
      go_enter Tryz.func29, Tryz.ntmps29
      go_wp2_with fail
      refine CS.mono ?_
      clear CS r0
      rintro e w1 ⟨rfl, hB⟩
      have ck := HCK.out w1 hB
      have HM1 : Hid (w1.heap[mb]? = some (.map #[] 0)) := (hB.block mb (Array.getElem?_eq_some_iff.1 HM0.out).1).trans HM0.out
      have HB1 : Hid (Below w.heap.size w w1) := HB0.out.trans (hB.mono HB0.out.size)
      clear hB HM0 HB0 HCK
      go_wp2
      go_ret
      exact ⟨mb, rfl, nmm_empty HM1.out HF.out, HB1.out⟩

end Go.Proofs.YtjehkpndchadbaaGreatDoor
