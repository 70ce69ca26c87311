import Derived.Test.YtdhfjhdlimmjhaaGreatDoorQZ
import Derived.Test.YtdhfjhdlimmjhaaGreatDoorTAll
namespace Go.Proofs.YtdhfjhdlimmjhaaGreatDoor
open Go.RowKit
set_option maxRecDepth 100000

def codL : List Int := [12, 111, 137, 133, 151, 150, 152, 153]
theorem check_at (q : Qs) (k : Nat) (hk : k < 8) (h : ∀ j, j < k → (ansL q).getD j false = false) (ht : (ansL q).getD k false = true) : checkQ q = codL.getD k 0 := by
  have h0 := h 0
  have h1 := h 1
  have h2 := h 2
  have h3 := h 3
  have h4 := h 4
  have h5 := h 5
  have h6 := h 6
  have hk8 : k = 0 ∨ k = 1 ∨ k = 2 ∨ k = 3 ∨ k = 4 ∨ k = 5 ∨ k = 6 ∨ k = 7 := by omega
  unfold checkQ
  rcases hk8 with rfl | rfl | rfl | rfl | rfl | rfl | rfl | rfl <;> simp [ansL] at h0 h1 h2 h3 h4 h5 h6 ht <;> simp [codL, *]
theorem check_none (q : Qs) (h : ∀ j, j < 8 → (ansL q).getD j false = false) : checkQ q = 0 := by
  have h0 := h 0 (by omega)
  have h1 := h 1 (by omega)
  have h2 := h 2 (by omega)
  have h3 := h 3 (by omega)
  have h4 := h 4 (by omega)
  have h5 := h 5 (by omega)
  have h6 := h 6 (by omega)
  have h7 := h 7 (by omega)
  unfold checkQ
  simp [ansL] at h0 h1 h2 h3 h4 h5 h6 h7
  simp [*]


section
variable {P : Program} {ops : Array Oper} {Q : Exit → Act → World → Prop} {md : Region.Mode} {S : World → Prop} {k : Nat}
theorem wpAnyK_two (i j : Nat) {oi oj : Oper} {ri rj : List Oper} {fuel : Nat} {listed : Array Bool} {a : Act} {w : World} (hi : ops.toList.drop i = oi :: ri) (hj : ops.toList.drop j = oj :: rj) (hr : Region.ready md ops listed = [i, j])
    (h1 : ∀ K' : Act → World → Prop, Shut (∀ a w, ((listed.setIfInBounds i true).getD k true = false → S w) → wpAnyK P md ops Q k S fuel (listed.setIfInBounds i true) a w → K' a w) → if Region.wanted oi (yielded ops a.tmps) = true then Oper.wp P oi a w K' Q else K' (a.put oi.dst undef) w)
    (h2 : ∀ K' : Act → World → Prop, Shut (∀ a w, ((listed.setIfInBounds j true).getD k true = false → S w) → wpAnyK P md ops Q k S fuel (listed.setIfInBounds j true) a w → K' a w) → if Region.wanted oj (yielded ops a.tmps) = true then Oper.wp P oj a w K' Q else K' (a.put oj.dst undef) w) :
    wpAnyK P md ops Q k S (fuel + 1) listed a w := by
  refine ⟨fun h0 => (by rw [hr] at h0; cases h0), fun l hl => ?_⟩
  rw [hr] at hl
  rcases List.mem_cons.1 hl with rfl | hl
  · exact wpOp_step (op_at hi) (fun K' hK => h1 K' (fun a w hS hW => hK a w ⟨hS, hW⟩))
  · obtain rfl : l = j := by simpa using hl
    exact wpOp_step (op_at hj) (fun K' hK => h2 K' (fun a w hS hW => hK a w ⟨hS, hW⟩))
end
section
variable {P : Program} {ops : Array Oper} {S : World → Prop}
theorem yif_load {o : Oper} {a : Act} (ty : TypeId) (x : Operand) (ho : o.op = .load ty x) (b off : Nat) (hx : a.eval x = .pointer (some ⟨b, off, none⟩)) (cs : List Value) (d : TypeDesc) (hc : ∀ w, S w → w.rangeAt b off cs)
    (hu : P.underlying ty = some d) (hd : d.isRow = true) (hi : (P.info? ty).map (·.size) = some cs.length) (hw : Region.wanted o (yielded ops a.tmps) = true) : YieldsIf P ops S o (.agg cs.toArray) a := by
  refine .inl ⟨hw, fun w hS => ?_⟩
  unfold execOp
  simp only [ho, hx, Instr.loadAt, Instr.sureAddr, Sem.run_bind, Sem.run_pure, Result.andThen_ok, run_loadVar_mid w b off ty cs d (hc w hS) hu hd hi]
theorem yif_build {o : Oper} {a : Act} (t : TypeId) (parts : Array (Nat × Operand)) (ho : o.op = .build t parts) (cells : Array Value) (hf : P.built t (parts.map fun (i, x) => (i, a.eval x)).toList = some cells) (hw : Region.wanted o (yielded ops a.tmps) = true) : YieldsIf P ops S o (.agg cells) a := by
  refine .inl ⟨hw, fun w _ => ?_⟩
  unfold execOp
  simp only [ho, Sem.run_bind, run_build w t _ cells hf, Result.andThen_ok]
  rfl
end
theorem bl_rng9 {t : TypeId} {w : World} {b : Nat} {cs : List Value} (h : Bl t w b cs) : w.rangeAt b 0 cs := fun j v hv => by
  obtain ⟨hj, e⟩ := List.getElem?_eq_some_iff.1 hv
  rw [Nat.zero_add, ← e]
  exact h.cell j hj
structure Sbx (b : Nat) (q : Qs) (w : World) : Prop where
  cl : Bl 27 w b (clQ q)
  wt : Bl 30 w (b + 1) (wtQ q)
theorem Sbx.below {b : Nat} {q : Qs} {w w' : World} (h : Sbx b q w) (hb : Below w.heap.size w w') : Sbx b q w' := ⟨h.cl.below hb h.cl.lt, h.wt.below hb h.wt.lt⟩
def qZ : List Value := [.slice none 0 0, .string ⟨#[]⟩, .bool false, .string ⟨#[]⟩, .bool false, .slice none 0 0, .bool false, .string ⟨#[]⟩, .bool false, .bool false, .int .i64 0, .bool false, .int .i64 0, .bool false, .int .i64 0, .int .i64 0, .string ⟨#[]⟩, .string ⟨#[]⟩, .bool false, .string ⟨#[]⟩, .bool false, .string ⟨#[]⟩, .bool false, .int .i64 0, .bool false, .int .i64 0, .int .i64 0, .bool false]

def clV9 (q : Qs) : Value := .agg #[.slice q.av q.c.val.length q.cv, .string ⟨q.c.iss.toArray⟩, .bool q.c.hIss, .string ⟨q.c.sub.toArray⟩, .bool q.c.hSub, .slice q.ax q.c.aud.length q.cx, .bool q.c.hAud, .string ⟨q.c.jti.toArray⟩, .bool q.c.hJti, .bool q.c.exp.has, .int .i64 q.c.exp.at_, .bool q.c.nbf.has, .int .i64 q.c.nbf.at_, .bool q.c.iat.has, .int .i64 q.c.iat.at_]
def wtV9 (q : Qs) : Value := .agg #[.string ⟨q.client.toArray⟩, .string ⟨q.nonce.toArray⟩, .bool q.hasN, .string ⟨q.access.toArray⟩, .bool q.hasA, .string ⟨q.code.toArray⟩, .bool q.hasC, .int .i64 q.age, .bool q.hasAge, .int .i64 q.lee]

set_option maxRecDepth 100000 in
set_option maxHeartbeats 16000000 in
theorem icheck_any (q : Qs) (w : World) (hR : NR w (.slice q.av q.c.val.length q.cv) q.c.val q.av q.cv) (hT : TR w (.slice q.ax q.c.aud.length q.cx) q.c.aud q.ax q.cx) (hG : GL w.heap.size w) (ht : TB q.c.val) (hl : q.c.val.length ≤ 1000000000) (hla : q.c.aud.length ≤ 1000000000) (hTb : Sha.Tb w) (hs : q.sh = shapedF q.c.val)
    (HA : Hid (q.access.length ≤ 1000000000 ∧ q.code.length ≤ 1000000000 ∧ (-9223372036854775808 ≤ (nQ q kAuth).int ∧ (nQ q kAuth).int ≤ 9223372036854775807) ∧ q.now ≤ 9223372036854775807)) :
    Calls Tryz.prog 6 #[clV9 q, .int .i64 q.alg, wtV9 q, .int .i64 q.now] w fun e w' => e = .returned (.int .i64 (checkQ q)) ∧ Below w.heap.size w w' := by
  have hW1 := alloc_below9 w (.cells (clQ q).toArray 27)
  obtain ⟨W1, e1⟩ : ∃ x, w.alloc (.cells (clQ q).toArray 27) = x := ⟨_, rfl⟩
  obtain ⟨W, e2⟩ : ∃ x, W1.alloc (.cells (wtQ q).toArray 30) = x := ⟨_, rfl⟩
  have hB1 : Below w.heap.size w W1 := by rw [← e1]; exact alloc_below9 _ _
  have hz1 : W1.heap.size = w.heap.size + 1 := by rw [← e1, alloc_size]
  have hB2 : Below W1.heap.size W1 W := by rw [← e2]; exact alloc_below9 _ _
  have hBW : Below w.heap.size w W := hB1.trans (hB2.mono hB1.size)
  have HBW : Hid (Below w.heap.size w W) := hBW
  have hcl : Bl 27 W1 w.heap.size (clQ q) := by rw [← e1]; exact alloc_bl _ _ _
  have hwt : Bl 30 W W1.heap.size (wtQ q) := by rw [← e2]; exact alloc_bl _ _ _
  have HS0 : Hid (Sbx w.heap.size q W.drew) := ⟨hcl.below (hB2.drew) hcl.lt, by rw [hz1] at hwt; exact hwt⟩
  have HW : Hid ((w.alloc (.cells (clQ q).toArray 27)).alloc (.cells (wtQ q).toArray 30) = W) := by show _ = _; rw [e1, e2]
  have HNq : Hid (∀ wq, Below W.heap.size W wq → NR wq (.slice q.av q.c.val.length q.cv) q.c.val q.av q.cv) := fun wq hq => hR.below (hBW.trans (hq.mono hBW.size)) (Nat.le_refl _)
  have HTq : Hid (∀ wq, Below W.heap.size W wq → TR wq (.slice q.ax q.c.aud.length q.cx) q.c.aud q.ax q.cx) := fun wq hq => hT.below (hBW.trans (hq.mono hBW.size)) (Nat.le_refl _)
  have HGq : Hid (∀ wq, Below W.heap.size W wq → GL wq.heap.size wq) := fun wq hq => (hG.below (hBW.trans (hq.mono hBW.size))).up (hBW.trans (hq.mono hBW.size)).size
  have HXq : Hid (∀ wq, Below W.heap.size W wq → Sha.Tb wq) := fun wq hq => hTb.below (hBW.trans (hq.mono hBW.size))
  have HSh : Hid (q.sh = shapedF q.c.val) := hs
  have Hlen : Hid (q.c.val.length ≤ 1000000000 ∧ q.c.aud.length ≤ 1000000000 ∧ TB q.c.val) := ⟨hl, hla, ht⟩
  unfold clQ wtQ at HW
  clear hW1 e1 e2 hB1 hz1 hB2 hBW hcl hwt hR hT hG hTb hs hl hla ht
  unfold clV9 wtV9
  go_enter Tryz.func6, Tryz.ntmps6
  go_upto_region 1 with fail
  rw [HW.out]
  go_cut [9] from 9 to 19 (fun s wx => ∃ g, s = .pointer (some ⟨g, 0, none⟩) ∧ Hid (Qw wx g q ∧ Sha.Tb wx ∧ Below w.heap.size w wx))
  case first =>
    have hci : (Tryz.prog.info? 27).map (·.size) = some (clQ q).length := by kernel_rfl
    have hwi : (Tryz.prog.info? 30).map (·.size) = some (wtQ q).length := by kernel_rfl
    have hqi : (Tryz.prog.info? 43).map (·.size) = some 28 := by kernel_rfl
    refine wp_region_K 9 (Sbx w.heap.size q) (by kernel_rfl) ?_
    have hHeld : (Sbx w.heap.size q) (World.drew _) := HS0.out
    refine wpAnyK_take0 1 (v := ?v1) rfl (by kernel_rfl) (fun _ _ _ h => h) (Or.inl ⟨by rfl, ?hy1⟩) (fun _ => hHeld) ?_
    case hy1 => (intro w hSw; go_simp; try with_reducible rfl)
    try simp only [Act.put, List.setIfInBounds_toArray, List.set_cons_zero, List.set_cons_succ]
    refine wpAnyK_take0 3 (v := ?v2) rfl (by kernel_rfl) (fun _ _ _ h => h) (Or.inl ⟨by rfl, ?hy2⟩) (fun _ => hHeld) ?_
    case hy2 => (intro w hSw; go_simp; try with_reducible rfl)
    try simp only [Act.put, List.setIfInBounds_toArray, List.set_cons_zero, List.set_cons_succ]
    refine wpAnyK_take0 4 (v := ?v3) rfl (by kernel_rfl) (fun _ _ _ h => h) (Or.inl ⟨by rfl, ?hy3⟩) (fun _ => hHeld) ?_
    case hy3 => (intro w hSw; go_simp; try with_reducible rfl)
    try simp only [Act.put, List.setIfInBounds_toArray, List.set_cons_zero, List.set_cons_succ]
    refine wpAnyK_take 0 [7, 9] rfl (by kernel_rfl) (fun _ _ _ h => h) (yif_load 27 (.tmp 4) rfl w.heap.size 0 rfl (clQ q) _ (fun wz hz => bl_rng9 hz.cl) Tryz.underlying27 rfl hci rfl) hHeld ?_
    try simp only [Act.put, List.setIfInBounds_toArray, List.set_cons_zero, List.set_cons_succ]
    refine wpAnyK_take 2 [7, 9] rfl (by kernel_rfl) (fun _ _ _ h => h) (yif_load 30 (.tmp 6) rfl (w.heap.size + 1) 0 rfl (wtQ q) _ (fun wz hz => bl_rng9 hz.wt) Tryz.underlying30 rfl hwi rfl) hHeld ?_
    try simp only [Act.put, List.setIfInBounds_toArray, List.set_cons_zero, List.set_cons_succ]
    refine wpAnyK_take 5 [6, 7, 9] (v := ?v6) rfl (by kernel_rfl) (fun _ _ _ h => h) (Or.inl ⟨by rfl, ?hy6⟩) hHeld ?_
    case hy6 => (intro wz hSw; have kz : wz.cell? ⟨w.heap.size, 0, none⟩ = some (.slice q.av q.c.val.length q.cv) := hSw.cl.cell 0 (by show 0 < 15; omega); clear hSw; go_simp; try with_reducible rfl)
    try simp only [Act.put, List.setIfInBounds_toArray, List.set_cons_zero, List.set_cons_succ]
    refine wpAnyK_two 6 8 rfl rfl (by kernel_rfl) (fun K hK => ?_) (fun K hK => ?_)
    · go_simp
      refine (shaped_any _ q.c.val q.av q.cv W.drew (HNq.out W.drew (Below.refl _ _).drew) (HGq.out W.drew (Below.refl _ _).drew) Hlen.out.2.2 Hlen.out.1).mono ?_
      rintro e w3 ⟨rfl, hB3⟩
      rw [← HSh.out]
      have HBa : Hid (Below W.heap.size W w3) := ((Below.refl _ W).drew).trans hB3
      have hHeld2 : (Sbx w.heap.size q) w3 := hHeld.below hB3
      have HZa : Hid (Bl 43 (w3.alloc (.cells qZ.toArray 43)) w3.heap.size qZ) := alloc_bl _ _ _
      have hHeld3 : (Sbx w.heap.size q) (w3.alloc (.cells qZ.toArray 43)) := hHeld2.below (alloc_below9 _ _)
      have HBb : Hid (Below W.heap.size W (w3.alloc (.cells qZ.toArray 43))) := HBa.out.trans ((alloc_below9 _ _).mono HBa.out.size)
      clear hB3
      try dsimp only
      refine hK.out _ _ ?hka ?_
      case hka => exact fun _ => hHeld2
      clear hK K
      try simp only [Act.put, List.setIfInBounds_toArray, List.set_cons_zero, List.set_cons_succ]
      refine wpAnyK_take0 7 rfl (by kernel_rfl) (fun _ _ _ h => h) (yif_build 43 _ rfl (qC q).toArray (by kernel_rfl) rfl) (fun _ => hHeld2) ?_
      try simp only [Act.put, List.setIfInBounds_toArray, List.set_cons_zero, List.set_cons_succ]
      refine wpAnyK_step 8 rfl (by kernel_rfl) (fun K hK => ?_)
      go_simp
      refine hK.out _ _ ?hkb ?_
      case hkb => exact fun _ => hHeld3
      clear hK K
      try simp only [Act.put, List.setIfInBounds_toArray, List.set_cons_zero, List.set_cons_succ]
      refine wpAnyK_step 9 rfl (by kernel_rfl) (fun K hK => ?_)
      rw [if_pos (by kernel_rfl)]
      refine wp_store_row 43 _ _ rfl (w3.heap.size) (qC q).toArray rfl rfl 43 qZ.toArray (HZa.out) hqi rfl (by simp [qC, Value.oneCell']) ?_
      refine hK.out _ _ ?hkza ?_
      case hkza => exact (fun h => nomatch (h.symm.trans (show _ = true by kernel_rfl)))
      clear hK K
      try simp only [Act.put]
      refine wpAnyK_done (by kernel_rfl) ?_ _
      go_wp2_with fail
      go_meet
      have hBz := setRow_below2 (b := w3.heap.size) (qC q).toArray (HBb.out) (HBa.out.size)
      exact ⟨_, rfl, ⟨set_bl2 (HZa.out), HNq.out _ hBz, HTq.out _ hBz, Hlen.out.1, Hlen.out.2.1⟩, HXq.out _ hBz, HBW.out.trans (hBz.mono HBW.out.size)⟩
    · have HZ0 : Hid (Bl 43 (W.alloc (.cells qZ.toArray 43)).drew W.heap.size qZ) := alloc_bl _ _ _
      have HB0 : Hid (Below W.heap.size W (W.alloc (.cells qZ.toArray 43)).drew) := (alloc_below9 _ _).drew
      have hHeld2 : (Sbx w.heap.size q) (W.alloc (.cells qZ.toArray 43)).drew := HS0.out.below (show Below W.drew.heap.size W.drew (W.alloc (.cells qZ.toArray 43)).drew from alloc_below9 W.drew (.cells qZ.toArray 43))
      have CB := shaped_any _ q.c.val q.av q.cv _ (HNq.out _ HB0.out) (HGq.out _ HB0.out) Hlen.out.2.2 Hlen.out.1
      go_simp
      refine hK.out _ _ ?hkc ?_
      case hkc => exact fun _ => hHeld2
      clear hK K hHeld
      try simp only [Act.put, List.setIfInBounds_toArray, List.set_cons_zero, List.set_cons_succ]
      refine wpAnyK_step 6 rfl (by kernel_rfl) (fun K hK => ?_)
      go_simp
      refine CB.mono ?_
      rintro e w3 ⟨rfl, hB3⟩
      rw [← HSh.out]
      have HBa : Hid (Below W.heap.size W w3) := HB0.out.trans (hB3.mono HB0.out.size)
      have hHeld3 : (Sbx w.heap.size q) w3 := hHeld2.below hB3
      have HZa : Hid (Bl 43 w3 W.heap.size qZ) := HZ0.out.below hB3 HZ0.out.lt
      clear hB3 CB
      try dsimp only
      refine hK.out _ _ ?hkd ?_
      case hkd => exact fun _ => hHeld3
      clear hK K
      try simp only [Act.put, List.setIfInBounds_toArray, List.set_cons_zero, List.set_cons_succ]
      refine wpAnyK_take0 7 rfl (by kernel_rfl) (fun _ _ _ h => h) (yif_build 43 _ rfl (qC q).toArray (by kernel_rfl) rfl) (fun _ => hHeld3) ?_
      try simp only [Act.put, List.setIfInBounds_toArray, List.set_cons_zero, List.set_cons_succ]
      refine wpAnyK_step 9 rfl (by kernel_rfl) (fun K hK => ?_)
      rw [if_pos (by kernel_rfl)]
      refine wp_store_row 43 _ _ rfl (W.heap.size) (qC q).toArray rfl rfl 43 qZ.toArray (HZa.out) hqi rfl (by simp [qC, Value.oneCell']) ?_
      refine hK.out _ _ ?hkzb ?_
      case hkzb => exact (fun h => nomatch (h.symm.trans (show _ = true by kernel_rfl)))
      clear hK K
      try simp only [Act.put]
      refine wpAnyK_done (by kernel_rfl) ?_ _
      go_wp2_with fail
      go_meet
      have hBz := setRow_below2 (b := W.heap.size) (qC q).toArray (HBa.out) (Nat.le_refl _)
      exact ⟨_, rfl, ⟨set_bl2 (HZa.out), HNq.out _ hBz, HTq.out _ hBz, Hlen.out.1, Hlen.out.2.1⟩, HXq.out _ hBz, HBW.out.trans (hBz.mono HBW.out.size)⟩
  case rest =>
    obtain ⟨g, rfl, HX⟩ := hcut
    have CS := steps_any g wc
    clear HNq HTq HGq HXq HSh Hlen HW HBW HS0
    go_wp2_with fail
    refine CS.mono ?_
    clear CS
    rintro e w1 ⟨rfl, hw1⟩
    have hB1 : Below wc.heap.size wc w1 := by rw [hw1]; exact alloc_below9 _ _
    obtain ⟨b, hb⟩ : ∃ b, wc.heap.size = b := ⟨_, rfl⟩
    have HL1 : Hid (Lq w w1 g b q) := ⟨HX.out.1.below hB1 (Nat.le_refl _), HX.out.2.1.below hB1, HX.out.2.2.trans (hB1.mono HX.out.2.2.size), by rw [hw1, ← hb]; exact alloc_bl _ _ _⟩
    rw [hb]
    clear hB1 hw1 HX hb
    go_wp2
    go_loopw [8, 11, 22] (fun s8 s11 s22 wx => ∃ k : Nat, s22 = .int .i64 k ∧ k ≤ 8 ∧ (∀ j, j < k → (ansL q).getD j false = false) ∧ Hid (Lq w wx g b q)) (fun _ _ x _ => 8 - (intOf x).toNat)
    case atStart => exact ⟨0, rfl, by omega, fun j hj => by omega, HL1⟩
    case round =>
    obtain ⟨k, rfl, hk, hp, HL⟩ := hrel
    have hgi : (Tryz.prog.info? 48).map (·.size) = some 2 := by kernel_rfl
    have HP : Hid (∀ j, j < k → (ansL q).getD j false = false) := hp
    clear hp HL1
    replace hk : k = 0 ∨ k = 1 ∨ k = 2 ∨ k = 3 ∨ k = 4 ∨ k = 5 ∨ k = 6 ∨ k = 7 ∨ k = 8 := by omega
    rcases hk with rfl | hk
    · have KL := HL.out
      have c0 : wr.cell? ⟨b, 0, none⟩ = some (fnQ 20 g) := KL.st.cell 0 (by show 0 < 16; omega)
      have c1 : wr.cell? ⟨b, 1, none⟩ = some (.int .i64 12) := KL.st.cell 1 (by show 1 < 16; omega)
      have HBA : Hid (Bl 48 (wr.alloc (.cells #[.nilFunc, .int .i64 0] 48)) wr.heap.size [.nilFunc, .int .i64 0]) := alloc_bl _ _ _
      obtain ⟨w2, hw2⟩ : ∃ w2, (wr.alloc (.cells #[.nilFunc, .int .i64 0] 48)).setRow wr.heap.size #[fnQ 20 g, .int .i64 12] = w2 := ⟨_, rfl⟩
      have hB2 : Below wr.heap.size wr w2 := by rw [← hw2]; exact setRow_below2 _ (alloc_below9 _ _) (Nat.le_refl _)
      have bl2 : Bl 48 w2 wr.heap.size [fnQ 20 g, .int .i64 12] := by rw [← hw2]; exact set_bl2 HBA.out
      have d0 : w2.cell? ⟨wr.heap.size, 0, none⟩ = some (fnQ 20 g) := bl2.cell 0 (by show 0 < 2; omega)
      have KL2 := KL.below hB2
      have CS := step0_any q g w2 KL2.qw KL2.tb HA.out.1 HA.out.2.1 HA.out.2.2.1 HA.out.2.2.2 (.inl rfl)
      have HB2 : Hid (Bl 48 w2 wr.heap.size [fnQ 20 g, .int .i64 12]) := bl2
      have HL2 : Hid (Lq w w2 g b q) := KL2
      unfold fnQ at c0 d0 hw2
      obtain ⟨r, hr⟩ : ∃ r, (ansL q).getD 0 false = r := ⟨_, rfl⟩
      rw [hr] at CS
      have HR : Hid ((ansL q).getD 0 false = r) := hr
      have HWz : Hid ((wr.alloc (.cells #[.nilFunc, .int .i64 0] 48)).setRow wr.heap.size #[.func (.func 20) #[.pointer (some ⟨g, 0, none⟩)] #[], .int .i64 12] = w2) := hw2
      clear hr KL KL2 bl2 hB2 HL hw2
      go_wp2_with (refine wpList_store_row rfl 48 (.tmp 11) (.tmp 25) rfl wr.heap.size #[.func (.func 20) #[.pointer (some ⟨g, 0, none⟩)] #[], .int .i64 12] rfl rfl 48 #[.nilFunc, .int .i64 0] HBA.out hgi rfl (by simp [Value.oneCell']) ?_; rw [HWz.out]; clear HWz)
      refine CS.mono ?_
      clear CS
      rintro e w3 ⟨rfl, hb3⟩
      have HL3 : Hid (Lq w w3 g b q) := HL2.out.below hb3
      have e1 : w3.cell? ⟨wr.heap.size, 1, none⟩ = some (.int .i64 12) := (HB2.out.below hb3 HB2.out.lt).cell 1 (by show 1 < 2; omega)
      clear hb3 HL2 HB2 d0 c0 c1 HBA
      cases r
      · go_wp2
        go_roundw
        case rel => exact ⟨0 + 1, rfl, by omega, fun j hj => (by rcases Nat.lt_or_ge j 0 with h | h; exact HP.out j h; obtain rfl : j = 0 := (by omega); exact HR.out), HL3⟩
        case measure => simp [intOf]
      · go_wp2
        go_ret
        exact ⟨by rw [check_at q 0 (by omega) (fun j hj => HP.out j hj) HR.out]; rfl, HL3.out.bel⟩
    rcases hk with rfl | hk
    · have KL := HL.out
      have c0 : wr.cell? ⟨b, 2, none⟩ = some (fnQ 21 g) := KL.st.cell 2 (by show 2 < 16; omega)
      have c1 : wr.cell? ⟨b, 3, none⟩ = some (.int .i64 111) := KL.st.cell 3 (by show 3 < 16; omega)
      have HBA : Hid (Bl 48 (wr.alloc (.cells #[.nilFunc, .int .i64 0] 48)) wr.heap.size [.nilFunc, .int .i64 0]) := alloc_bl _ _ _
      obtain ⟨w2, hw2⟩ : ∃ w2, (wr.alloc (.cells #[.nilFunc, .int .i64 0] 48)).setRow wr.heap.size #[fnQ 21 g, .int .i64 111] = w2 := ⟨_, rfl⟩
      have hB2 : Below wr.heap.size wr w2 := by rw [← hw2]; exact setRow_below2 _ (alloc_below9 _ _) (Nat.le_refl _)
      have bl2 : Bl 48 w2 wr.heap.size [fnQ 21 g, .int .i64 111] := by rw [← hw2]; exact set_bl2 HBA.out
      have d0 : w2.cell? ⟨wr.heap.size, 0, none⟩ = some (fnQ 21 g) := bl2.cell 0 (by show 0 < 2; omega)
      have KL2 := KL.below hB2
      have CS := step1_any q g w2 KL2.qw KL2.tb HA.out.1 HA.out.2.1 HA.out.2.2.1 HA.out.2.2.2 (.inr (bad_not q (by have := HP.out 0 (by omega); exact this)))
      have HB2 : Hid (Bl 48 w2 wr.heap.size [fnQ 21 g, .int .i64 111]) := bl2
      have HL2 : Hid (Lq w w2 g b q) := KL2
      unfold fnQ at c0 d0 hw2
      obtain ⟨r, hr⟩ : ∃ r, (ansL q).getD 1 false = r := ⟨_, rfl⟩
      rw [hr] at CS
      have HR : Hid ((ansL q).getD 1 false = r) := hr
      have HWz : Hid ((wr.alloc (.cells #[.nilFunc, .int .i64 0] 48)).setRow wr.heap.size #[.func (.func 21) #[.pointer (some ⟨g, 0, none⟩)] #[], .int .i64 111] = w2) := hw2
      clear hr KL KL2 bl2 hB2 HL hw2
      go_wp2_with (refine wpList_store_row rfl 48 (.tmp 11) (.tmp 25) rfl wr.heap.size #[.func (.func 21) #[.pointer (some ⟨g, 0, none⟩)] #[], .int .i64 111] rfl rfl 48 #[.nilFunc, .int .i64 0] HBA.out hgi rfl (by simp [Value.oneCell']) ?_; rw [HWz.out]; clear HWz)
      refine CS.mono ?_
      clear CS
      rintro e w3 ⟨rfl, hb3⟩
      have HL3 : Hid (Lq w w3 g b q) := HL2.out.below hb3
      have e1 : w3.cell? ⟨wr.heap.size, 1, none⟩ = some (.int .i64 111) := (HB2.out.below hb3 HB2.out.lt).cell 1 (by show 1 < 2; omega)
      clear hb3 HL2 HB2 d0 c0 c1 HBA
      cases r
      · go_wp2
        go_roundw
        case rel => exact ⟨1 + 1, rfl, by omega, fun j hj => (by rcases Nat.lt_or_ge j 1 with h | h; exact HP.out j h; obtain rfl : j = 1 := (by omega); exact HR.out), HL3⟩
        case measure => simp [intOf]
      · go_wp2
        go_ret
        exact ⟨by rw [check_at q 1 (by omega) (fun j hj => HP.out j hj) HR.out]; rfl, HL3.out.bel⟩
    rcases hk with rfl | hk
    · have KL := HL.out
      have c0 : wr.cell? ⟨b, 4, none⟩ = some (fnQ 22 g) := KL.st.cell 4 (by show 4 < 16; omega)
      have c1 : wr.cell? ⟨b, 5, none⟩ = some (.int .i64 137) := KL.st.cell 5 (by show 5 < 16; omega)
      have HBA : Hid (Bl 48 (wr.alloc (.cells #[.nilFunc, .int .i64 0] 48)) wr.heap.size [.nilFunc, .int .i64 0]) := alloc_bl _ _ _
      obtain ⟨w2, hw2⟩ : ∃ w2, (wr.alloc (.cells #[.nilFunc, .int .i64 0] 48)).setRow wr.heap.size #[fnQ 22 g, .int .i64 137] = w2 := ⟨_, rfl⟩
      have hB2 : Below wr.heap.size wr w2 := by rw [← hw2]; exact setRow_below2 _ (alloc_below9 _ _) (Nat.le_refl _)
      have bl2 : Bl 48 w2 wr.heap.size [fnQ 22 g, .int .i64 137] := by rw [← hw2]; exact set_bl2 HBA.out
      have d0 : w2.cell? ⟨wr.heap.size, 0, none⟩ = some (fnQ 22 g) := bl2.cell 0 (by show 0 < 2; omega)
      have KL2 := KL.below hB2
      have CS := step2_any q g w2 KL2.qw KL2.tb HA.out.1 HA.out.2.1 HA.out.2.2.1 HA.out.2.2.2 (.inr (bad_not q (by have := HP.out 0 (by omega); exact this)))
      have HB2 : Hid (Bl 48 w2 wr.heap.size [fnQ 22 g, .int .i64 137]) := bl2
      have HL2 : Hid (Lq w w2 g b q) := KL2
      unfold fnQ at c0 d0 hw2
      obtain ⟨r, hr⟩ : ∃ r, (ansL q).getD 2 false = r := ⟨_, rfl⟩
      rw [hr] at CS
      have HR : Hid ((ansL q).getD 2 false = r) := hr
      have HWz : Hid ((wr.alloc (.cells #[.nilFunc, .int .i64 0] 48)).setRow wr.heap.size #[.func (.func 22) #[.pointer (some ⟨g, 0, none⟩)] #[], .int .i64 137] = w2) := hw2
      clear hr KL KL2 bl2 hB2 HL hw2
      go_wp2_with (refine wpList_store_row rfl 48 (.tmp 11) (.tmp 25) rfl wr.heap.size #[.func (.func 22) #[.pointer (some ⟨g, 0, none⟩)] #[], .int .i64 137] rfl rfl 48 #[.nilFunc, .int .i64 0] HBA.out hgi rfl (by simp [Value.oneCell']) ?_; rw [HWz.out]; clear HWz)
      refine CS.mono ?_
      clear CS
      rintro e w3 ⟨rfl, hb3⟩
      have HL3 : Hid (Lq w w3 g b q) := HL2.out.below hb3
      have e1 : w3.cell? ⟨wr.heap.size, 1, none⟩ = some (.int .i64 137) := (HB2.out.below hb3 HB2.out.lt).cell 1 (by show 1 < 2; omega)
      clear hb3 HL2 HB2 d0 c0 c1 HBA
      cases r
      · go_wp2
        go_roundw
        case rel => exact ⟨2 + 1, rfl, by omega, fun j hj => (by rcases Nat.lt_or_ge j 2 with h | h; exact HP.out j h; obtain rfl : j = 2 := (by omega); exact HR.out), HL3⟩
        case measure => simp [intOf]
      · go_wp2
        go_ret
        exact ⟨by rw [check_at q 2 (by omega) (fun j hj => HP.out j hj) HR.out]; rfl, HL3.out.bel⟩
    rcases hk with rfl | hk
    · have KL := HL.out
      have c0 : wr.cell? ⟨b, 6, none⟩ = some (fnQ 23 g) := KL.st.cell 6 (by show 6 < 16; omega)
      have c1 : wr.cell? ⟨b, 7, none⟩ = some (.int .i64 133) := KL.st.cell 7 (by show 7 < 16; omega)
      have HBA : Hid (Bl 48 (wr.alloc (.cells #[.nilFunc, .int .i64 0] 48)) wr.heap.size [.nilFunc, .int .i64 0]) := alloc_bl _ _ _
      obtain ⟨w2, hw2⟩ : ∃ w2, (wr.alloc (.cells #[.nilFunc, .int .i64 0] 48)).setRow wr.heap.size #[fnQ 23 g, .int .i64 133] = w2 := ⟨_, rfl⟩
      have hB2 : Below wr.heap.size wr w2 := by rw [← hw2]; exact setRow_below2 _ (alloc_below9 _ _) (Nat.le_refl _)
      have bl2 : Bl 48 w2 wr.heap.size [fnQ 23 g, .int .i64 133] := by rw [← hw2]; exact set_bl2 HBA.out
      have d0 : w2.cell? ⟨wr.heap.size, 0, none⟩ = some (fnQ 23 g) := bl2.cell 0 (by show 0 < 2; omega)
      have KL2 := KL.below hB2
      have CS := step3_any q g w2 KL2.qw KL2.tb HA.out.1 HA.out.2.1 HA.out.2.2.1 HA.out.2.2.2 (.inr (bad_not q (by have := HP.out 0 (by omega); exact this)))
      have HB2 : Hid (Bl 48 w2 wr.heap.size [fnQ 23 g, .int .i64 133]) := bl2
      have HL2 : Hid (Lq w w2 g b q) := KL2
      unfold fnQ at c0 d0 hw2
      obtain ⟨r, hr⟩ : ∃ r, (ansL q).getD 3 false = r := ⟨_, rfl⟩
      rw [hr] at CS
      have HR : Hid ((ansL q).getD 3 false = r) := hr
      have HWz : Hid ((wr.alloc (.cells #[.nilFunc, .int .i64 0] 48)).setRow wr.heap.size #[.func (.func 23) #[.pointer (some ⟨g, 0, none⟩)] #[], .int .i64 133] = w2) := hw2
      clear hr KL KL2 bl2 hB2 HL hw2
      go_wp2_with (refine wpList_store_row rfl 48 (.tmp 11) (.tmp 25) rfl wr.heap.size #[.func (.func 23) #[.pointer (some ⟨g, 0, none⟩)] #[], .int .i64 133] rfl rfl 48 #[.nilFunc, .int .i64 0] HBA.out hgi rfl (by simp [Value.oneCell']) ?_; rw [HWz.out]; clear HWz)
      refine CS.mono ?_
      clear CS
      rintro e w3 ⟨rfl, hb3⟩
      have HL3 : Hid (Lq w w3 g b q) := HL2.out.below hb3
      have e1 : w3.cell? ⟨wr.heap.size, 1, none⟩ = some (.int .i64 133) := (HB2.out.below hb3 HB2.out.lt).cell 1 (by show 1 < 2; omega)
      clear hb3 HL2 HB2 d0 c0 c1 HBA
      cases r
      · go_wp2
        go_roundw
        case rel => exact ⟨3 + 1, rfl, by omega, fun j hj => (by rcases Nat.lt_or_ge j 3 with h | h; exact HP.out j h; obtain rfl : j = 3 := (by omega); exact HR.out), HL3⟩
        case measure => simp [intOf]
      · go_wp2
        go_ret
        exact ⟨by rw [check_at q 3 (by omega) (fun j hj => HP.out j hj) HR.out]; rfl, HL3.out.bel⟩
    rcases hk with rfl | hk
    · have KL := HL.out
      have c0 : wr.cell? ⟨b, 8, none⟩ = some (fnQ 24 g) := KL.st.cell 8 (by show 8 < 16; omega)
      have c1 : wr.cell? ⟨b, 9, none⟩ = some (.int .i64 151) := KL.st.cell 9 (by show 9 < 16; omega)
      have HBA : Hid (Bl 48 (wr.alloc (.cells #[.nilFunc, .int .i64 0] 48)) wr.heap.size [.nilFunc, .int .i64 0]) := alloc_bl _ _ _
      obtain ⟨w2, hw2⟩ : ∃ w2, (wr.alloc (.cells #[.nilFunc, .int .i64 0] 48)).setRow wr.heap.size #[fnQ 24 g, .int .i64 151] = w2 := ⟨_, rfl⟩
      have hB2 : Below wr.heap.size wr w2 := by rw [← hw2]; exact setRow_below2 _ (alloc_below9 _ _) (Nat.le_refl _)
      have bl2 : Bl 48 w2 wr.heap.size [fnQ 24 g, .int .i64 151] := by rw [← hw2]; exact set_bl2 HBA.out
      have d0 : w2.cell? ⟨wr.heap.size, 0, none⟩ = some (fnQ 24 g) := bl2.cell 0 (by show 0 < 2; omega)
      have KL2 := KL.below hB2
      have CS := step4_any q g w2 KL2.qw KL2.tb HA.out.1 HA.out.2.1 HA.out.2.2.1 HA.out.2.2.2 (.inr (bad_not q (by have := HP.out 0 (by omega); exact this)))
      have HB2 : Hid (Bl 48 w2 wr.heap.size [fnQ 24 g, .int .i64 151]) := bl2
      have HL2 : Hid (Lq w w2 g b q) := KL2
      unfold fnQ at c0 d0 hw2
      obtain ⟨r, hr⟩ : ∃ r, (ansL q).getD 4 false = r := ⟨_, rfl⟩
      rw [hr] at CS
      have HR : Hid ((ansL q).getD 4 false = r) := hr
      have HWz : Hid ((wr.alloc (.cells #[.nilFunc, .int .i64 0] 48)).setRow wr.heap.size #[.func (.func 24) #[.pointer (some ⟨g, 0, none⟩)] #[], .int .i64 151] = w2) := hw2
      clear hr KL KL2 bl2 hB2 HL hw2
      go_wp2_with (refine wpList_store_row rfl 48 (.tmp 11) (.tmp 25) rfl wr.heap.size #[.func (.func 24) #[.pointer (some ⟨g, 0, none⟩)] #[], .int .i64 151] rfl rfl 48 #[.nilFunc, .int .i64 0] HBA.out hgi rfl (by simp [Value.oneCell']) ?_; rw [HWz.out]; clear HWz)
      refine CS.mono ?_
      clear CS
      rintro e w3 ⟨rfl, hb3⟩
      have HL3 : Hid (Lq w w3 g b q) := HL2.out.below hb3
      have e1 : w3.cell? ⟨wr.heap.size, 1, none⟩ = some (.int .i64 151) := (HB2.out.below hb3 HB2.out.lt).cell 1 (by show 1 < 2; omega)
      clear hb3 HL2 HB2 d0 c0 c1 HBA
      cases r
      · go_wp2
        go_roundw
        case rel => exact ⟨4 + 1, rfl, by omega, fun j hj => (by rcases Nat.lt_or_ge j 4 with h | h; exact HP.out j h; obtain rfl : j = 4 := (by omega); exact HR.out), HL3⟩
        case measure => simp [intOf]
      · go_wp2
        go_ret
        exact ⟨by rw [check_at q 4 (by omega) (fun j hj => HP.out j hj) HR.out]; rfl, HL3.out.bel⟩
    rcases hk with rfl | hk
    · have KL := HL.out
      have c0 : wr.cell? ⟨b, 10, none⟩ = some (fnQ 25 g) := KL.st.cell 10 (by show 10 < 16; omega)
      have c1 : wr.cell? ⟨b, 11, none⟩ = some (.int .i64 150) := KL.st.cell 11 (by show 11 < 16; omega)
      have HBA : Hid (Bl 48 (wr.alloc (.cells #[.nilFunc, .int .i64 0] 48)) wr.heap.size [.nilFunc, .int .i64 0]) := alloc_bl _ _ _
      obtain ⟨w2, hw2⟩ : ∃ w2, (wr.alloc (.cells #[.nilFunc, .int .i64 0] 48)).setRow wr.heap.size #[fnQ 25 g, .int .i64 150] = w2 := ⟨_, rfl⟩
      have hB2 : Below wr.heap.size wr w2 := by rw [← hw2]; exact setRow_below2 _ (alloc_below9 _ _) (Nat.le_refl _)
      have bl2 : Bl 48 w2 wr.heap.size [fnQ 25 g, .int .i64 150] := by rw [← hw2]; exact set_bl2 HBA.out
      have d0 : w2.cell? ⟨wr.heap.size, 0, none⟩ = some (fnQ 25 g) := bl2.cell 0 (by show 0 < 2; omega)
      have KL2 := KL.below hB2
      have CS := step5_any q g w2 KL2.qw KL2.tb HA.out.1 HA.out.2.1 HA.out.2.2.1 HA.out.2.2.2 (.inr (bad_not q (by have := HP.out 0 (by omega); exact this)))
      have HB2 : Hid (Bl 48 w2 wr.heap.size [fnQ 25 g, .int .i64 150]) := bl2
      have HL2 : Hid (Lq w w2 g b q) := KL2
      unfold fnQ at c0 d0 hw2
      obtain ⟨r, hr⟩ : ∃ r, (ansL q).getD 5 false = r := ⟨_, rfl⟩
      rw [hr] at CS
      have HR : Hid ((ansL q).getD 5 false = r) := hr
      have HWz : Hid ((wr.alloc (.cells #[.nilFunc, .int .i64 0] 48)).setRow wr.heap.size #[.func (.func 25) #[.pointer (some ⟨g, 0, none⟩)] #[], .int .i64 150] = w2) := hw2
      clear hr KL KL2 bl2 hB2 HL hw2
      go_wp2_with (refine wpList_store_row rfl 48 (.tmp 11) (.tmp 25) rfl wr.heap.size #[.func (.func 25) #[.pointer (some ⟨g, 0, none⟩)] #[], .int .i64 150] rfl rfl 48 #[.nilFunc, .int .i64 0] HBA.out hgi rfl (by simp [Value.oneCell']) ?_; rw [HWz.out]; clear HWz)
      refine CS.mono ?_
      clear CS
      rintro e w3 ⟨rfl, hb3⟩
      have HL3 : Hid (Lq w w3 g b q) := HL2.out.below hb3
      have e1 : w3.cell? ⟨wr.heap.size, 1, none⟩ = some (.int .i64 150) := (HB2.out.below hb3 HB2.out.lt).cell 1 (by show 1 < 2; omega)
      clear hb3 HL2 HB2 d0 c0 c1 HBA
      cases r
      · go_wp2
        go_roundw
        case rel => exact ⟨5 + 1, rfl, by omega, fun j hj => (by rcases Nat.lt_or_ge j 5 with h | h; exact HP.out j h; obtain rfl : j = 5 := (by omega); exact HR.out), HL3⟩
        case measure => simp [intOf]
      · go_wp2
        go_ret
        exact ⟨by rw [check_at q 5 (by omega) (fun j hj => HP.out j hj) HR.out]; rfl, HL3.out.bel⟩
    rcases hk with rfl | hk
    · have KL := HL.out
      have c0 : wr.cell? ⟨b, 12, none⟩ = some (fnQ 26 g) := KL.st.cell 12 (by show 12 < 16; omega)
      have c1 : wr.cell? ⟨b, 13, none⟩ = some (.int .i64 152) := KL.st.cell 13 (by show 13 < 16; omega)
      have HBA : Hid (Bl 48 (wr.alloc (.cells #[.nilFunc, .int .i64 0] 48)) wr.heap.size [.nilFunc, .int .i64 0]) := alloc_bl _ _ _
      obtain ⟨w2, hw2⟩ : ∃ w2, (wr.alloc (.cells #[.nilFunc, .int .i64 0] 48)).setRow wr.heap.size #[fnQ 26 g, .int .i64 152] = w2 := ⟨_, rfl⟩
      have hB2 : Below wr.heap.size wr w2 := by rw [← hw2]; exact setRow_below2 _ (alloc_below9 _ _) (Nat.le_refl _)
      have bl2 : Bl 48 w2 wr.heap.size [fnQ 26 g, .int .i64 152] := by rw [← hw2]; exact set_bl2 HBA.out
      have d0 : w2.cell? ⟨wr.heap.size, 0, none⟩ = some (fnQ 26 g) := bl2.cell 0 (by show 0 < 2; omega)
      have KL2 := KL.below hB2
      have CS := step6_any q g w2 KL2.qw KL2.tb HA.out.1 HA.out.2.1 HA.out.2.2.1 HA.out.2.2.2 (.inr (bad_not q (by have := HP.out 0 (by omega); exact this)))
      have HB2 : Hid (Bl 48 w2 wr.heap.size [fnQ 26 g, .int .i64 152]) := bl2
      have HL2 : Hid (Lq w w2 g b q) := KL2
      unfold fnQ at c0 d0 hw2
      obtain ⟨r, hr⟩ : ∃ r, (ansL q).getD 6 false = r := ⟨_, rfl⟩
      rw [hr] at CS
      have HR : Hid ((ansL q).getD 6 false = r) := hr
      have HWz : Hid ((wr.alloc (.cells #[.nilFunc, .int .i64 0] 48)).setRow wr.heap.size #[.func (.func 26) #[.pointer (some ⟨g, 0, none⟩)] #[], .int .i64 152] = w2) := hw2
      clear hr KL KL2 bl2 hB2 HL hw2
      go_wp2_with (refine wpList_store_row rfl 48 (.tmp 11) (.tmp 25) rfl wr.heap.size #[.func (.func 26) #[.pointer (some ⟨g, 0, none⟩)] #[], .int .i64 152] rfl rfl 48 #[.nilFunc, .int .i64 0] HBA.out hgi rfl (by simp [Value.oneCell']) ?_; rw [HWz.out]; clear HWz)
      refine CS.mono ?_
      clear CS
      rintro e w3 ⟨rfl, hb3⟩
      have HL3 : Hid (Lq w w3 g b q) := HL2.out.below hb3
      have e1 : w3.cell? ⟨wr.heap.size, 1, none⟩ = some (.int .i64 152) := (HB2.out.below hb3 HB2.out.lt).cell 1 (by show 1 < 2; omega)
      clear hb3 HL2 HB2 d0 c0 c1 HBA
      cases r
      · go_wp2
        go_roundw
        case rel => exact ⟨6 + 1, rfl, by omega, fun j hj => (by rcases Nat.lt_or_ge j 6 with h | h; exact HP.out j h; obtain rfl : j = 6 := (by omega); exact HR.out), HL3⟩
        case measure => simp [intOf]
      · go_wp2
        go_ret
        exact ⟨by rw [check_at q 6 (by omega) (fun j hj => HP.out j hj) HR.out]; rfl, HL3.out.bel⟩
    rcases hk with rfl | hk
    · have KL := HL.out
      have c0 : wr.cell? ⟨b, 14, none⟩ = some (fnQ 27 g) := KL.st.cell 14 (by show 14 < 16; omega)
      have c1 : wr.cell? ⟨b, 15, none⟩ = some (.int .i64 153) := KL.st.cell 15 (by show 15 < 16; omega)
      have HBA : Hid (Bl 48 (wr.alloc (.cells #[.nilFunc, .int .i64 0] 48)) wr.heap.size [.nilFunc, .int .i64 0]) := alloc_bl _ _ _
      obtain ⟨w2, hw2⟩ : ∃ w2, (wr.alloc (.cells #[.nilFunc, .int .i64 0] 48)).setRow wr.heap.size #[fnQ 27 g, .int .i64 153] = w2 := ⟨_, rfl⟩
      have hB2 : Below wr.heap.size wr w2 := by rw [← hw2]; exact setRow_below2 _ (alloc_below9 _ _) (Nat.le_refl _)
      have bl2 : Bl 48 w2 wr.heap.size [fnQ 27 g, .int .i64 153] := by rw [← hw2]; exact set_bl2 HBA.out
      have d0 : w2.cell? ⟨wr.heap.size, 0, none⟩ = some (fnQ 27 g) := bl2.cell 0 (by show 0 < 2; omega)
      have KL2 := KL.below hB2
      have CS := step7_any q g w2 KL2.qw KL2.tb HA.out.1 HA.out.2.1 HA.out.2.2.1 HA.out.2.2.2 (.inr (bad_not q (by have := HP.out 0 (by omega); exact this)))
      have HB2 : Hid (Bl 48 w2 wr.heap.size [fnQ 27 g, .int .i64 153]) := bl2
      have HL2 : Hid (Lq w w2 g b q) := KL2
      unfold fnQ at c0 d0 hw2
      obtain ⟨r, hr⟩ : ∃ r, (ansL q).getD 7 false = r := ⟨_, rfl⟩
      rw [hr] at CS
      have HR : Hid ((ansL q).getD 7 false = r) := hr
      have HWz : Hid ((wr.alloc (.cells #[.nilFunc, .int .i64 0] 48)).setRow wr.heap.size #[.func (.func 27) #[.pointer (some ⟨g, 0, none⟩)] #[], .int .i64 153] = w2) := hw2
      clear hr KL KL2 bl2 hB2 HL hw2
      go_wp2_with (refine wpList_store_row rfl 48 (.tmp 11) (.tmp 25) rfl wr.heap.size #[.func (.func 27) #[.pointer (some ⟨g, 0, none⟩)] #[], .int .i64 153] rfl rfl 48 #[.nilFunc, .int .i64 0] HBA.out hgi rfl (by simp [Value.oneCell']) ?_; rw [HWz.out]; clear HWz)
      refine CS.mono ?_
      clear CS
      rintro e w3 ⟨rfl, hb3⟩
      have HL3 : Hid (Lq w w3 g b q) := HL2.out.below hb3
      have e1 : w3.cell? ⟨wr.heap.size, 1, none⟩ = some (.int .i64 153) := (HB2.out.below hb3 HB2.out.lt).cell 1 (by show 1 < 2; omega)
      clear hb3 HL2 HB2 d0 c0 c1 HBA
      cases r
      · go_wp2
        go_roundw
        case rel => exact ⟨7 + 1, rfl, by omega, fun j hj => (by rcases Nat.lt_or_ge j 7 with h | h; exact HP.out j h; obtain rfl : j = 7 := (by omega); exact HR.out), HL3⟩
        case measure => simp [intOf]
      · go_wp2
        go_ret
        exact ⟨by rw [check_at q 7 (by omega) (fun j hj => HP.out j hj) HR.out]; rfl, HL3.out.bel⟩
    subst hk
    go_wp2
    go_ret
    exact ⟨by rw [check_none q (fun j hj => HP.out j hj)]; rfl, HL.out.bel⟩

end Go.Proofs.YtdhfjhdlimmjhaaGreatDoor

namespace Go.Proofs.YtdhfjhdlimmjhaaGreatDoor
open Go.RowKit
set_option maxRecDepth 100000

structure Wt where
  client : List UInt8
  nonce : List UInt8
  hasN : Bool
  access : List UInt8
  hasA : Bool
  code : List UInt8
  hasC : Bool
  age : Int
  hasAge : Bool
  lee : Int
def wtV (t : Wt) : Value := .agg #[.string ⟨t.client.toArray⟩, .string ⟨t.nonce.toArray⟩, .bool t.hasN, .string ⟨t.access.toArray⟩, .bool t.hasA, .string ⟨t.code.toArray⟩, .bool t.hasC, .int .i64 t.age, .bool t.hasAge, .int .i64 t.lee]
def mkQ (c : Cm) (va : Option Addr) (vc : Nat) (aa : Option Addr) (ac : Nat) (alg : Int) (t : Wt) (now : Int) : Qs :=
  ⟨c, va, vc, aa, ac, alg, t.client, t.nonce, t.hasN, t.access, t.hasA, t.code, t.hasC, t.age, t.hasAge, t.lee, now, shapedF c.val⟩

def sevF (q : Qs) : Bool := !badF q && !(hhF q.alg == 0) && !lackQ q && decide (q.client ∈ q.c.aud) && !azpQ q && !nonceF q && !hashQ q

end Go.Proofs.YtdhfjhdlimmjhaaGreatDoor
