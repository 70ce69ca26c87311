import Derived.Test.YtkaoobdemaahbaaWd9
import Derived.Deep.RegionHeldLaw
namespace Go.Proofs.Ytkaoobdemaahbaa
open Go.RowKit

theorem step_append_own {P : Program} {ops : Array Oper} {o : Oper} {a : Act} {w : World} {K : Act → World → Prop} {Q : Exit → Act → World → Prop} {E : Prop} (hg : o.guard = none) (s x : Operand) (t : TypeId)
    (ho : o.op = .call { callee := .builtin .append, args := #[s, x], argTypes := #[t, t] })
    (base : Nat) (e : TypeId) (i : TypeInfo) (z : Value) (size bytes : Nat) (ht : P.underlying t = some (.slice e)) (hi : P.info? e = some i) (hz : i.zero = some z)
    (hsize : i.size = size) (hby : i.bytes = bytes) (hzs : z.cells.size = size) (hsz : 0 < size)
    (v : Value) (n : Nat) (xs : List Value) (hs : a.eval s = v) (hown : w.ownsRow base e size v n xs)
    (ad : Addr) (m c : Nat) (news : List Value) (hx : a.eval x = .slice (some ad) m c) (hl : news.length = m * size) (hnews : ∀ j u, news[j]? = some u → w.cell? (ad.add j) = some u) (h1 : ∀ u ∈ news, u.oneCell' = true)
    (h63 : n + m ≤ maxLen) (hbytes : ((n + m) + (n + m) / 4 + 192) * bytes ≤ 281474976710656) (hbase : base ≤ w.heap.size)
    (h : ∀ v' w', w'.ownsRow base e size v' (n + m) (xs ++ news) → w.grownBy w' v.ownBlock → (v' = .slice none 0 0 ↔ v = .slice none 0 0 ∧ m = 0) → K (a.put o.dst v') w') :
    if Region.wanted o (yielded ops a.tmps) = true then Oper.wp P o a w K Q else E := by
  have hw : Region.wanted o (yielded ops a.tmps) = true := by simp [Region.wanted, hg]
  rw [if_pos hw]
  exact wp_append_own_wide w s x t ho base e i z size bytes ht hi hz hsize hby hzs hsz v n xs hs hown ad m c news hx hl hnews h1 h63 hbytes hbase h
theorem Tm.drew {base : Nat} {w : World} {v : Value} {ys : List X} {j : Nat} (h : Tm base w v ys j) : Tm base w.drew v ys j := ⟨h.own, h.dat, h.sep⟩
theorem Tm.drewN {base : Nat} {w : World} {v : Value} {ys : List X} {j : Nat} (h : Tm base w v ys j) (q : Nat) : Tm base (w.drewN q) v ys j := ⟨h.own, h.dat, h.sep⟩

set_option maxRecDepth 100000 in
set_option maxHeartbeats 8000000 in
theorem twin_any (ao : Option Addr) (cap : Nat) (xs : List X) (w : World) (hR : Row w ao xs) (hlen : xs.length ≤ 2000000) (hdl : ∀ x ∈ xs, x.e.data.length ≤ 2000000) :
    Calls Try.prog 5 #[.slice ao xs.length cap] w fun e w' => ∃ g c ys, e = .returned (.slice (some ⟨g, 0, none⟩) xs.length c) ∧ es ys = es xs ∧ Tm w.heap.size w' (.slice (some ⟨g, 0, none⟩) (xs.length + 20) c) ys 20 ∧ Below w.heap.size w w' := by
  obtain ⟨i1, hj, hy0, hy1, hy2⟩ := info_parts infoT
  have HR : Hid (Row w ao xs) := hR
  have Hdl : Hid (∀ x ∈ xs, x.e.data.length ≤ 2000000) := hdl
  obtain ⟨N, HN⟩ : ∃ N, Hid (xs.length = N) := ⟨_, rfl⟩
  rw [HN.out] at hlen ⊢
  clear hR hdl
  go_enter Try.func5, Try.ntmps5
  go_wp2
  go_loopw [3, 4] (fun s3 s4 wr => ∃ (a3 : Option Addr) (k3 i : Nat) (ys : List X), s3 = .slice a3 i k3 ∧ s4 = .int .i64 (i : Int) ∧ i ≤ N ∧ Hid (Tm w.heap.size wr (.slice a3 i k3) ys 0 ∧ es ys = (es xs).take i ∧ ys.length = i ∧ Below w.heap.size w wr)) (fun _ s4 _ => N - (intOf s4).toNat)
  case atStart => exact ⟨none, 0, 0, [], rfl, rfl, Nat.zero_le _, Tm.nil _ _, by simp [es], rfl, Below.refl _ _⟩
  case round =>
    obtain ⟨a3, k3, i, ys, rfl, rfl, hi, HI⟩ := hrel
    by_cases hlt : i < N
    · have d1 : decide ((i : Int) < (N : Int)) = true := decide_eq_true (by omega)
      have hix : i < xs.length := by rw [HN.out]; exact hlt
      have hRr := HR.out.below HI.out.2.2.2 (Nat.le_refl _)
      obtain ⟨g, off, rfl, hg, hc⟩ := hRr.at'.resolve_left (fun e => by rw [e] at hix; simp at hix)
      have hXo := hRr.ok xs[i] (List.getElem_mem hix)
      have hXd := Hdl.out xs[i] (List.getElem_mem hix)
      have Hgw : Hid (g < w.heap.size) := by
        obtain ⟨g', off', e, hg', _⟩ := HR.out.at'.resolve_left (fun e => by rw [e] at hix; simp at hix)
        cases e
        exact hg'
      have hes : (es xs).take (i + 1) = (es xs).take i ++ [xs[i].e] := by
        rw [List.take_succ_eq_append_getElem (by rw [es_length]; exact hix)]
        simp [es]
      have c0 := (hc i hix).1
      have c1 := (hc i hix).2.1
      have c2 := (hc i hix).2.2
      unfold xD at c1
      have CM := marked_any xs[i].a xs[i].c xs[i].e.data wr hXo.rd hXd
      generalize xs[i].e = x at *
      generalize xs[i].a = xa at *
      generalize xs[i].c = xc at *
      obtain ⟨tg, dt, kd⟩ := x
      simp only at c0 c1 c2 CM hXd
      obtain ⟨dn, Hdn⟩ : ∃ n, Hid (dt.length = n) := ⟨_, rfl⟩
      rw [Hdn.out] at c1 CM hXd
      have Hes : Hid ((es xs).take (i + 1) = (es xs).take i ++ [⟨tg, dt, kd⟩]) := hes
      have Hg : Hid (g < wr.heap.size) := hg
      clear hc hXo hes hRr hix hg
      go_wp2_with fail
      refine CM.mono ?_
      rintro e w1 ⟨v5, rfl, hob⟩
      clear CM
      obtain ⟨g5, c5, hv5, hc5, hc5'⟩ := own_some hob.own (by rw [List.length_append, mks_length]; omega)
      have hl5 : (dt ++ mks 90).length = dn + 90 := by rw [List.length_append, mks_length, Hdn.out]
      rw [hl5] at hv5 hc5
      subst hv5
      have hb1 := hob.bel
      have c0' : w1.cell? ⟨g, off + i * 3, none⟩ = some (.int .i64 tg) := cell_but c0 (fun h => hb1.block g h)
      have c1' : w1.cell? ⟨g, off + i * 3 + 1, none⟩ = some (.slice xa dn xc) := cell_but c1 (fun h => hb1.block g h)
      have c2' : w1.cell? ⟨g, off + i * 3 + 2, none⟩ = some (.int .i64 kd) := cell_but c2 (fun h => hb1.block g h)
      have HTw : Hid (Tm w.heap.size w1 (.slice a3 i k3) ys 0) := HI.out.1.below hb1 (Nat.le_refl _)
      have HOw : Hid (w1.ownsRow w.heap.size 32 3 (.slice a3 i k3) i (xCs ys)) := by
        have := HTw.out.own
        rw [fil_zero, List.append_nil, HI.out.2.2.1] at this
        exact this
      have HXw : Hid (w1.ownsRow w.heap.size 5 1 (.slice (some ⟨g5, 0, none⟩) (dn + 90) c5) (dn + 90) ((dt ++ mks 90).map B)) := by
        have := own_base hob.own HI.out.2.2.2.size
        rw [hl5] at this
        exact this
      have HBw : Hid (Below w.heap.size w w1) := HI.out.2.2.2.trans (hb1.mono HI.out.2.2.2.size)
      have Hold : Hid (∀ y ∈ ys, ∀ gg, (xD y).ownBlock = some gg → gg < wr.heap.size) := fun y hy gg hgg => ((HI.out.1.dat y hy).lt gg (by rw [own_blk]; exact hgg)).2
      have Hnew : Hid (wr.heap.size ≤ g5) := own_block hob.own g5 rfl
      have Hys : Hid (es ys = (es xs).take i ∧ ys.length = i) := ⟨HI.out.2.1, HI.out.2.2.1⟩
      have hdc : dn ≤ c5 := by omega
      have hgw : g < w.heap.size := Hgw.out
      have hsw : w.heap.size ≤ w1.heap.size := HBw.out.size
      have Hun : Hid (∀ gg, (Value.slice a3 i k3).ownBlock = some gg → w.heap.size ≤ gg) := own_block HOw.out
      clear c0 c1 c2 hob hb1 hl5 HI Hg
      go_wp2
      go_region_held_law (fun w' => w'.cell? ⟨g, off + i * 3, none⟩ = some (.int .i64 tg) ∧ w'.cell? ⟨g, off + i * 3 + 1, none⟩ = some (.slice xa dn xc) ∧ w'.cell? ⟨g, off + i * 3 + 2, none⟩ = some (.int .i64 kd)) (first | assumption | go_keep) ((
         refine step_append_own rfl (.tmp 19) (.tmp 39) 22 rfl w.heap.size 32 i1 (.agg #[.int .i64 0, .slice none 0 0, .int .i64 0]) 3 40 Try.underlying22 hj hy0 hy1 hy2 rfl (by decide) (.slice a3 i k3) i (xCs ys) (by simp [Act.eval]) (HOw.out.alloc _) ⟨w1.heap.size, 0, none⟩ 1 1 [.int .i64 tg, .slice (some ⟨g5, 0, none⟩) dn c5, .int .i64 kd] (by simp [Act.eval]) rfl (by intro t u ht; match t, ht with | 0, ht => (simp at ht; subst ht; simp [Addr.add]) | 1, ht => (simp at ht; subst ht; simp [Addr.add]) | 2, ht => (simp at ht; subst ht; simp [Addr.add])) (by intro u hu; simp at hu; rcases hu with rfl | rfl | rfl <;> rfl) (by unfold maxLen; omega) (by omega) (by simp; omega) ?_
         intro vZ wY hownZ hgrowZ _
         have hkp : ∀ (j : Nat) (u : Value), w1.cell? ⟨g, j, none⟩ = some u → wY.cell? ⟨g, j, none⟩ = some u := (fun j u hu => cell_but hu fun hg => (by rw [hgrowZ.block g (by simp; omega) (fun e => by have := Hun.out g e.symm; omega)]; exact (alloc_below w1 _).block g hg))
         have hS5 : wY.cell? ⟨g, off + i * 3, none⟩ = some (.int .i64 tg) ∧ wY.cell? ⟨g, off + i * 3 + 1, none⟩ = some (.slice xa dn xc) ∧ wY.cell? ⟨g, off + i * 3 + 2, none⟩ = some (.int .i64 kd) := ⟨hkp _ _ c0', hkp _ _ c1', hkp _ _ c2'⟩
         have HBn : Hid (Below w.heap.size w wY) := (Below.grown (Below.drew (HBw.out.trans ((alloc_below w1 _).mono HBw.out.size))) hgrowZ (by simp; omega) Hun.out)
         have HTn : Hid (Tm w.heap.size wY vZ (ys ++ [⟨⟨tg, dt, kd⟩, some ⟨g5, 0, none⟩, c5⟩]) 0) := Tm.push (b1 := wr.heap.size) (x := ⟨⟨tg, dt, kd⟩, some ⟨g5, 0, none⟩, c5⟩) (HTw.out.below (alloc_below w1 (Obj.cells #[.int .i64 tg, .slice (some ⟨g5, 0, none⟩) dn c5, .int .i64 kd] 32)) (Nat.le_refl _)).drew Hold.out (fun gg hgg => by have e := Option.some.inj hgg; rw [← e]; exact Hnew.out) (by show World.ownsRow _ _ _ _ (.slice _ (dt.length + 90) _) (dt.length + 90) _; rw [Hdn.out]; exact HXw.out.alloc _) hgrowZ (by rw [Hys.out.2]; have := hownZ; unfold xC xD; simp only; rw [Hdn.out]; exact this)))
      obtain ⟨aZ, kZ, hvZ⟩ : ∃ a k, vZ = .slice a (i + 1) k := by
        obtain ⟨a, k, e⟩ := own_slice HTn.out.own
        rw [fil_zero, List.append_nil, List.length_append, Hys.out.2] at e
        exact ⟨a, k, e⟩
      subst hvZ
      clear HTw HOw HXw HBw Hold Hnew Hun hS5 hkp c0' c1' c2'
      go_wp2
      go_roundw
      case rel => exact ⟨aZ, kZ, i + 1, ys ++ [⟨⟨tg, dt, kd⟩, some ⟨g5, 0, none⟩, c5⟩], rfl, by go_num, by omega, HTn.out, by rw [Hes.out, ← Hys.out.1]; simp [es], by rw [List.length_append, Hys.out.2]; rfl, HBn.out⟩
      case measure => simp [intOf]; omega
    · obtain rfl : i = N := by omega
      have d1 : decide ((i : Int) < (i : Int)) = false := decide_eq_false (by omega)
      have HI2 : Hid (Tm w.heap.size wr (.slice a3 i k3) ys 0 ∧ es ys = es xs ∧ ys.length = i ∧ Below w.heap.size w wr) := ⟨HI.out.1, by rw [HI.out.2.1, List.take_of_length_le (by rw [es_length, HN.out]; exact Nat.le_refl _)], HI.out.2.2⟩
      clear HI hlt hi
      go_wp2
      go_loopw [3, 6] (fun s3 s6 wr => ∃ (a3 : Option Addr) (k3 j : Nat), s3 = .slice a3 (i + j) k3 ∧ s6 = .int .i64 (j : Int) ∧ j ≤ 20 ∧ Hid (Tm w.heap.size wr (.slice a3 (i + j) k3) ys j ∧ Below w.heap.size w wr)) (fun _ s6 _ => 20 - (intOf s6).toNat)
      case atStart => exact ⟨a3, k3, 0, rfl, rfl, Nat.zero_le _, HI2.out.1, HI2.out.2.2.2⟩
      case round =>
        obtain ⟨a4, k4, j, rfl, rfl, hj20, HJ⟩ := hrel
        by_cases hlt : j < 20
        · have d2 : decide ((j : Int) < 20) = true := decide_eq_true (by omega)
          have HBa : Hid (Below wr.heap.size wr (wr.alloc (Obj.cells #[.int .i64 (700 + (j : Int)), .slice none 0 0, .int .i64 0] 32))) := alloc_below wr _
          have HNB : Hid (Bl 32 (wr.alloc (Obj.cells #[.int .i64 (700 + (j : Int)), .slice none 0 0, .int .i64 0] 32)) wr.heap.size [.int .i64 (700 + (j : Int)), .slice none 0 0, .int .i64 0]) := alloc_bl wr _ _
          have HTa : Hid (Tm w.heap.size (wr.alloc (Obj.cells #[.int .i64 (700 + (j : Int)), .slice none 0 0, .int .i64 0] 32)) (.slice a4 (i + j) k4) ys j) := HJ.out.1.below HBa.out (Nat.le_refl _)
          have Hlen : Hid ((ys ++ fil j).length = i + j) := by show _ = _; rw [List.length_append, fil_length, HI2.out.2.2.1]
          have HOa : Hid ((wr.alloc (Obj.cells #[.int .i64 (700 + (j : Int)), .slice none 0 0, .int .i64 0] 32)).ownsRow w.heap.size 32 3 (.slice a4 (i + j) k4) (i + j) (xCs (ys ++ fil j))) := by
            have := HTa.out.own
            rw [Hlen.out] at this
            exact this
          have HBb : Hid (Below w.heap.size w (wr.alloc (Obj.cells #[.int .i64 (700 + (j : Int)), .slice none 0 0, .int .i64 0] 32))) := HJ.out.2.trans (HBa.out.mono HJ.out.2.size)
          go_wp2_with (at_builtin; refine wpList_append_own_wide _ rfl (.tmp 45) (.tmp 49) 22 rfl w.heap.size 32 i1 (.agg #[.int .i64 0, .slice none 0 0, .int .i64 0]) 3 40 Try.underlying22 hj hy0 hy1 hy2 rfl (by decide) _ (i + j) (xCs (ys ++ fil j)) rfl HOa.out ⟨wr.heap.size, 0, none⟩ 1 1 [.int .i64 (700 + (j : Int)), .slice none 0 0, .int .i64 0] rfl rfl (fun j u hu => by match j, hu with | 0, hu => exact (HNB.out.cell 0 (by simp)).trans hu | 1, hu => exact (HNB.out.cell 1 (by simp)).trans hu | 2, hu => exact (HNB.out.cell 2 (by simp)).trans hu) (by intro u hu; simp at hu; rcases hu with rfl | rfl | rfl <;> rfl) (by unfold maxLen; omega) (by omega) HBb.out.size ?_; intro vZ wY hownZ hgrowZ hnilZ; obtain ⟨aZ, kZ, hvZ⟩ := own_slice hownZ; subst hvZ; have HTn : Hid (Tm w.heap.size wY (.slice aZ (i + j + 1) kZ) ys (j + 1)) := HTa.out.fill hgrowZ (by rw [Hlen.out]; exact hownZ); have HBn : Hid (Below w.heap.size w wY) := Below.grown HBb.out hgrowZ HBb.out.size (own_block HTa.out.own); clear hownZ hgrowZ hnilZ)
          clear HBa HNB HTa HOa HBb Hlen HJ
          go_wp2
          go_roundw
          case rel => exact ⟨aZ, kZ, j + 1, rfl, by go_num, by omega, HTn.out, HBn.out⟩
          case measure => simp [intOf]; omega
        · obtain rfl : j = 20 := by omega
          obtain ⟨g4, c4, hv4, hc4, hc4'⟩ := own_some HJ.out.1.own (by rw [List.length_append, fil_length]; omega)
          rw [List.length_append, fil_length, HI2.out.2.2.1] at hv4 hc4
          simp only [Value.slice.injEq] at hv4
          obtain ⟨rfl, _, rfl⟩ := hv4
          have hic : i ≤ k4 := by omega
          clear hlt hj20
          go_wp2
          go_ret
          exact ⟨g4, k4, ys, rfl, HI2.out.2.1, HJ.out.1, HJ.out.2⟩

end Go.Proofs.Ytkaoobdemaahbaa
