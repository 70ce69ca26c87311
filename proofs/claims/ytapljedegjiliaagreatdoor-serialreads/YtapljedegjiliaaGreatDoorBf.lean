import Derived.Test.YtapljedegjiliaaGreatDoorCZ
import Derived.Deep.AppendLies
namespace Go.Proofs.YtapljedegjiliaaGreatDoor
open Go.RowKit Go.Shelf

theorem wpList_append_run {w : World} {ops : Array Oper} {rest : List Oper} {o : Oper} {a : Act} {Q : Exit → Act → World → Prop} (hgd : o.guard = none) (s x : Operand) (t : TypeId)
    (ho : o.op = .call { callee := .builtin .append, args := #[s, x], argTypes := #[t, t] }) (v vx v' : Value) (w' : World) (hs : a.eval s = v) (hx : a.eval x = vx)
    (hrun : (Builtin.append_ #[t, t] o.type #[v, vx]).run Tryz.prog w = .ok v' w') (h : wpList Tryz.prog ops Q rest (a.put o.dst v') w') : wpList Tryz.prog ops Q (o :: rest) a w := by
  refine wpList_plain hgd fun K hK => ?_
  unfold Oper.wp
  simp [execOp, ho, resolve, invoke, builtin, hs, hx, hrun, Result.andThen]
  exact hK _ _ h

theorem grownBy.trans {a b c : World} {r : Option Nat} (h1 : a.grownBy b r) (h2 : b.grownBy c r) : a.grownBy c r :=
  ⟨h2.os.trans h1.os, h2.tape.trans h1.tape, h2.output.trans h1.output, Nat.le_trans h1.size h2.size, fun k hk hne => (h2.block k (Nat.lt_of_lt_of_le hk h1.size) hne).trans (h1.block k hk hne)⟩

/-- append of one value behind a row of one's own: what was there stays, shorter slices over the same row too. -/
theorem append_keep (w : World) (t e ty : TypeId) (i : TypeInfo) (z : Value) (bytes : Nat) (ht : Tryz.prog.underlying t = some (.slice e)) (hi : Tryz.prog.info? e = some i) (hz : i.zero = some z) (hsize : i.size = 1) (hby : i.bytes = bytes) (hzs : z.cells.size = 1)
    (v : Value) (n : Nat) (xs : List Value) (hown : w.ownsRow 0 e 1 v n xs) (ad : Addr) (u : Value) (hu : w.cell? ad = some u) (h1 : u.oneCell' = true) (hbytes : (n + 1) * bytes ≤ 140737488355328) (hn : n + 1 ≤ maxLen) :
    ∃ v' w', (Builtin.append_ #[t, t] ty #[v, .slice (some ad) 1 1]).run Tryz.prog w = .ok v' w' ∧ w'.ownsRow 0 e 1 v' (n + 1) (xs ++ [u]) ∧ w.grownBy w' v.ownBlock ∧
      (v'.ownBlock = v.ownBlock ∨ ∃ g, v'.ownBlock = some g ∧ w.heap.size ≤ g) ∧ (∀ v2 m ys, m ≤ n → v2.ownBlock = v.ownBlock → w.ownsRow 0 e 1 v2 m ys → w'.ownsRow 0 e 1 v2 m ys) := by
  have hadd : ∀ j u', [u][j]? = some u' → w.cell? (ad.add j) = some u' := fun j u' hj => by
    match j, hj with
    | 0, hj => simp at hj; subst hj; simpa [Addr.add] using hu
  obtain ⟨v', w', hrun, hown', hgr, hnil⟩ := run_append_own (P := Tryz.prog) w 0 t ty e i z 1 bytes ht hi hz hsize hby hzs (by decide) v n xs hown ad 1 1 [u] rfl hadd (fun x hx => by simp at hx; subst hx; exact h1) hn hbytes (Nat.zero_le _)
  refine ⟨v', w', hrun, hown', hgr, ?_⟩
  have keepAlloc : ∀ o v2 m ys, w.ownsRow 0 e 1 v2 m ys → (w.drew.alloc o).ownsRow 0 e 1 v2 m ys := fun o v2 m ys h => World.ownsRow.alloc (w := w.drew) h o
  rcases hown.2 with ⟨rfl, rfl⟩ | ⟨g, cap, cur, rfl, hb, hg, hnc, hcm, hcs, htake⟩
  · have hr := run_append_nil (P := Tryz.prog) w t ty e i z ht hi hz ad 1 1 [u] (by rw [hsize]; rfl) hadd (by decide) (by decide) (by rw [hby]; omega)
    rw [hr] at hrun
    injection hrun with h2 h3
    subst h2; subst h3
    exact ⟨.inr ⟨_, rfl, Nat.le_refl _⟩, fun v2 m ys _ _ h => keepAlloc _ v2 m ys h⟩
  · by_cases hroom : n + 1 ≤ cap
    · have hr := run_append_room (P := Tryz.prog) w t ty e i ht hi g n cap cur hg ad 1 1 [u] (by rw [hsize]; rfl) hadd (fun x hx => by simp at hx; subst hx; exact h1) hroom (by rw [hsize]; simp; omega)
      rw [hr] at hrun
      injection hrun with h2 h3
      subst h2; subst h3
      refine ⟨.inl rfl, fun v2 m ys hm hv2 h => ⟨h.1, ?_⟩⟩
      rcases h.2 with ⟨rfl, _⟩ | ⟨g2, cap2, cur2, rfl, hb2, hg2, hnc2, hcm2, hcs2, htake2⟩
      · simp [Value.ownBlock] at hv2
      · simp [Value.ownBlock] at hv2
        subst hv2
        rw [hg2] at hg
        injection hg with hg
        injection hg with hg
        subst hg
        refine .inr ⟨g2, cap2, _, rfl, hb2, setRow_heap w g2 cur2 _ e _ hg2, hnc2, hcm2, ?_, ?_⟩
        · simp [hsize]; omega
        · rw [← htake2]
          simp only [hsize, Nat.mul_one, List.length_singleton]
          rw [List.append_assoc, List.take_append_of_le_length (by simp; omega), List.take_take]
          rw [Nat.min_eq_left (by omega)]
    · have holds : ∀ j u', xs[j]? = some u' → w.cell? ((⟨g, 0, none⟩ : Addr).add j) = some u' := hown.cells (g := g) rfl
      have hr := run_append_grow (P := Tryz.prog) w t ty e i z ht hi hz ⟨g, 0, none⟩ n cap xs (by rw [hsize]; exact hown.1) holds ad 1 1 [u] (by rw [hsize]; rfl) hadd (by omega) (by simp only [maxLen] at hn; omega) (by rw [hby]; exact growslice_fits (by omega) hbytes)
      rw [hr] at hrun
      injection hrun with h2 h3
      subst h2; subst h3
      exact ⟨.inr ⟨_, rfl, Nat.le_refl _⟩, fun v2 m ys _ _ h => keepAlloc _ v2 m ys h⟩


theorem infoTx2 : (Tryz.prog.info? 9).map (fun i => (i.zero, i.size, i.bytes)) = some (some (.string ⟨#[]⟩), 1, 16) := by kernel_rfl
theorem rep_set {m : List UInt8} {l : List (List UInt8)} {k : Nat} (hk : k < l.length) : ((List.replicate k m ++ l.drop k).map tV).set k (.string ⟨m.toArray⟩) = (List.replicate (k + 1) m ++ l.drop (k + 1)).map tV := by
  rw [show (Value.string ⟨m.toArray⟩) = tV m from rfl, ← List.map_set]
  congr 1
  rw [List.set_append_right _ _ (by simp), List.length_replicate, Nat.sub_self, List.drop_eq_getElem_cons hk, List.set_cons_zero, List.replicate_succ', List.append_assoc]
  rfl
theorem rep_len {m : List UInt8} {l : List (List UInt8)} {k : Nat} (hk : k ≤ l.length) : (List.replicate k m ++ l.drop k).length = l.length := by simp; omega
theorem own_at {w : World} {g n c : Nat} {xs : List (List UInt8)} (h : w.ownsRow 0 9 1 (.slice (some ⟨g, 0, none⟩) n c) n (xs.map tV)) {k : Nat} (hk : k < xs.length) : w.cell? ⟨g, k, none⟩ = some (.string ⟨(xs.getD k []).toArray⟩) ∧ w.frozen? ⟨g, k, none⟩ = false := by
  refine own_cell h k _ ?_
  rw [List.getElem?_map, List.getElem?_eq_getElem hk, List.getD_eq_getElem?_getD, List.getElem?_eq_getElem hk]
  rfl
theorem own_any (a : Option Addr) (n m c : Nat) : (Value.slice a n c).ownBlock = (Value.slice a m c).ownBlock := by
  unfold Value.ownBlock
  rcases a with _ | ⟨g, o, s⟩ <;> (try rfl)
theorem getD_rep {m : List UInt8} {n k : Nat} (hk : k < n) : (List.replicate n m).getD k [] = m := by simp [List.getD_eq_getElem?_getD, hk]
theorem getD_rep2 {m y : List UInt8} {n j k : Nat} (h1 : n ≤ k) (h2 : k < n + j) : (List.replicate n m ++ List.replicate j y).getD k [] = y := by
  rw [List.getD_eq_getElem?_getD, List.getElem?_append_right (by simpa using h1), List.length_replicate, List.getElem?_replicate, if_pos (by omega)]
  rfl

set_option maxRecDepth 100000 in
set_option maxHeartbeats 16000000 in
/-- spoil of a list of one's own: it writes nothing but that list's row and new ones. -/
theorem spoil_any (l : List (List UInt8)) (a : Option Addr) (c : Nat) (mk : List UInt8) (w : World) (h : w.ownsRow 0 9 1 (.slice a l.length c) l.length (l.map tV)) (hl : l.length ≤ 100000000) :
    Calls Tryz.prog 7 #[.slice a l.length c, .string ⟨mk.toArray⟩] w fun e w' => e = .returned (.bool true) ∧ w.grownBy w' (Value.slice a l.length c).ownBlock := by
  obtain ⟨a', c', e, hc, hg⟩ := own_slice h
  cases e
  have HG : Hid (∀ k, k < l.length → ∃ g, a = some ⟨g, 0, none⟩) := fun k hk => hg (by omega)
  have HO0 : Hid (w.ownsRow 0 9 1 (.slice a l.length c) l.length (l.map tV)) := h
  have HLB : Hid (∀ g, (Value.slice a l.length c).ownBlock = some g → g < w.heap.size) := fun g hg => (h.lt g hg).2
  clear h hg
  go_enter Tryz.func7, Tryz.ntmps7
  go_wp2
  go_loopw [5] (fun s wx => ∃ k : Nat, s = .int .i64 k ∧ k ≤ l.length ∧ wx.ownsRow 0 9 1 (.slice a l.length c) l.length ((List.replicate k mk ++ l.drop k).map tV) ∧ w.grownBy wx (Value.slice a l.length c).ownBlock) (fun s _ => l.length - (intOf s).toNat)
  case atStart => exact ⟨0, rfl, Nat.zero_le _, HO0.out, World.grownBy.refl _ _⟩
  case round =>
    obtain ⟨k, rfl, hk, ho, hgr⟩ := hrel
    by_cases hlt : k < l.length
    · have q0 : decide ((k : Int) < (l.length : Int)) = true := decide_eq_true (by omega)
      have q1 : (k : Int) < (l.length : Int) := by omega
      obtain ⟨g, rfl⟩ := HG.out k hlt
      obtain ⟨kx, kf⟩ := own_at ho (k := k) (by rw [rep_len hk]; exact hlt)
      generalize (List.replicate k mk ++ l.drop k).getD k [] = old at *
      have hs := World.ownsRow.stored ho k (.string ⟨mk.toArray⟩)
      rw [rep_set hlt] at hs
      obtain ⟨x, hx⟩ : ∃ x, wr.setCell ⟨g, k, none⟩ (.string ⟨mk.toArray⟩) = x := ⟨_, rfl⟩
      rw [hx] at hs
      have HS : Hid (x.ownsRow 0 9 1 (.slice (some ⟨g, 0, none⟩) l.length c) l.length ((List.replicate (k + 1) mk ++ l.drop (k + 1)).map tV)) := hs.1
      have HGr : Hid (w.grownBy x (Value.slice (some ⟨g, 0, none⟩) l.length c).ownBlock) := grownBy.trans hgr hs.2
      clear ho hgr hs HO0
      go_wp2
      go_roundw
      case rel => exact ⟨k + 1, by go_num, by omega, HS.out, HGr.out⟩
      case measure => simp [intOf]; omega
    · have q0 : decide ((k : Int) < (l.length : Int)) = false := decide_eq_false (by omega)
      obtain rfl : k = l.length := by omega
      have HO : Hid (wr.ownsRow 0 9 1 (.slice a l.length c) l.length ((List.replicate l.length mk).map tV)) := by
        have := ho
        rwa [List.drop_eq_nil_of_le (Nat.le_refl _), List.append_nil] at this
      have HGr : Hid (w.grownBy wr (Value.slice a l.length c).ownBlock) := hgr
      clear ho hgr HO0
      generalize l.length = n at *
      go_wp2
      go_loopw [7, 6] (fun s7 s6 wx => ∃ j : Nat, s7 = .int .i64 j ∧ j ≤ 70 ∧ wx.ownsRow 0 9 1 s6 (n + j) ((List.replicate n mk ++ List.replicate j [109, 111, 114, 101]).map tV) ∧ wx.ownsRow 0 9 1 (.slice a n c) n ((List.replicate n mk).map tV) ∧ (s6.ownBlock = (Value.slice a n c).ownBlock ∨ ∃ g, s6.ownBlock = some g ∧ w.heap.size ≤ g) ∧ w.grownBy wx (Value.slice a n c).ownBlock) (fun s _ _ => 70 - (intOf s).toNat)
      case atStart => exact ⟨0, rfl, Nat.zero_le _, by simpa using HO.out, HO.out, .inl rfl, HGr.out⟩
      case round =>
        obtain ⟨j, rfl, hj, ho, hk, hob, hgr⟩ := hrel
        obtain ⟨va, vc, rfl, _, _⟩ := own_slice ho
        by_cases hj7 : j < 70
        · have q1 : decide ((j : Int) < 70) = true := decide_eq_true (by omega)
          obtain ⟨X, hX⟩ : ∃ X, wr.alloc (.cells #[.string ⟨#[109, 111, 114, 101]⟩] 9) = X := ⟨_, rfl⟩
          have hA : Below wr.heap.size wr X := by rw [← hX]; exact alloc_below _ _
          have hXo := own_below ho hA (Nat.le_refl _)
          have hXk := own_below hk hA (Nat.le_refl _)
          have hu : X.cell? ⟨wr.heap.size, 0, none⟩ = some (.string ⟨#[109, 111, 114, 101]⟩) := by
            have hbl : Bl 9 X wr.heap.size [.string ⟨#[109, 111, 114, 101]⟩] := by rw [← hX]; exact alloc_bl _ _ _
            exact hbl.cell 0 (by simp)
          obtain ⟨i, hi, hz, hsize, hby⟩ := info_parts infoTx2
          obtain ⟨v', w', hrun, h1, h2, h3, h4⟩ := append_keep X 22 9 22 i _ 16 Tryz.underlying22 hi hz hsize hby rfl (.slice va (n + j) vc) (n + j) _ hXo ⟨wr.heap.size, 0, none⟩ _ hu rfl (by omega) (by unfold maxLen; omega)
          have hsz : wr.heap.size ≤ X.heap.size := hA.size
          have hwr : w.heap.size ≤ wr.heap.size := hgr.size
          have HR1 : Hid (w'.ownsRow 0 9 1 v' (n + (j + 1)) ((List.replicate n mk ++ List.replicate (j + 1) [109, 111, 114, 101]).map tV)) := by
            show World.ownsRow _ _ _ _ _ _ _
            rw [List.replicate_succ', ← List.append_assoc, List.map_append, ← Nat.add_assoc]
            exact h1
          have HR2 : Hid (w'.ownsRow 0 9 1 (.slice a n c) n ((List.replicate n mk).map tV)) := by
            rcases hob with e | ⟨g, e, hge⟩
            · exact h4 _ n _ (by omega) e.symm hXk
            · refine own_keep hXk fun g' hg' => h2.block g' (Nat.lt_of_lt_of_le (hk.lt g' hg').2 hsz) ?_
              rw [e]
              intro h5
              injection h5 with h5
              have := HLB.out g' hg'
              omega
          have HR3 : Hid (v'.ownBlock = (Value.slice a n c).ownBlock ∨ ∃ g, v'.ownBlock = some g ∧ w.heap.size ≤ g) := by
            rcases h3 with e | ⟨g, e, hge⟩
            · rw [e]; exact hob
            · exact .inr ⟨g, e, by omega⟩
          have HR4 : Hid (w.grownBy w' (Value.slice a n c).ownBlock) := by
            have hgX : w.grownBy X (Value.slice a n c).ownBlock := grownBy.trans hgr ⟨hA.os, hA.tape, hA.output, hA.size, fun k hk _ => hA.block k hk⟩
            refine ⟨h2.os.trans hgX.os, h2.tape.trans hgX.tape, h2.output.trans hgX.output, Nat.le_trans hgX.size h2.size, fun k hk hne => ?_⟩
            rw [h2.block k (Nat.lt_of_lt_of_le hk hgX.size) ?_]
            · exact hgX.block k hk hne
            · rcases hob with e | ⟨g, e, hge⟩
              · rw [e]; exact hne
              · rw [e]
                intro h5
                injection h5 with h5
                omega
          have HX : Hid (wr.alloc (.cells #[.string ⟨#[109, 111, 114, 101]⟩] 9) = X) := hX
          clear h1 h2 h3 h4 hXo hXk hu hA ho hk hob hgr hX hsz
          go_wp2_with (at_builtin; rw [HX.out]; refine wpList_append_run rfl (.tmp 25) (.tmp 26) 22 rfl _ _ v' w' rfl rfl hrun ?_)
          go_roundw
          case rel => exact ⟨j + 1, by go_num, by omega, HR1.out, HR2.out, HR3.out, HR4.out⟩
          case measure => simp [intOf]; omega
        · have q1 : decide ((j : Int) < 70) = false := decide_eq_false (by omega)
          obtain rfl : j = 70 := by omega
          have HO1 : Hid (wr.ownsRow 0 9 1 (.slice va (n + 70) vc) (n + 70) ((List.replicate n mk ++ List.replicate 70 [109, 111, 114, 101]).map tV)) := ho
          have HK1 : Hid (wr.ownsRow 0 9 1 (.slice a n c) n ((List.replicate n mk).map tV)) := hk
          have HGz : Hid (w.grownBy wr (Value.slice a n c).ownBlock) := hgr
          have HGv : Hid (∃ g, va = some ⟨g, 0, none⟩) := by
            obtain ⟨_, _, e, _, h5⟩ := own_slice ho
            cases e
            exact h5 (by omega)
          clear ho hk hob hgr HLB
          go_wp2
          go_loopw [8] (fun s wx => ∃ k : Nat, s = .int .i64 k ∧ k ≤ n ∧ wx = wr) (fun s _ => n - (intOf s).toNat)
          case atStart => exact ⟨0, rfl, Nat.zero_le _, rfl⟩
          case round =>
            obtain ⟨k, rfl, hk, rfl⟩ := hrel
            by_cases hlt : k < n
            · have q2 : decide ((k : Int) < (n : Int)) = true := decide_eq_true (by omega)
              have q3 : (k : Int) < (n : Int) := by omega
              obtain ⟨g, rfl⟩ := HG.out k hlt
              have kx := (own_at HK1.out (k := k) (by simpa using hlt)).1
              rw [getD_rep hlt] at kx
              have qn : (mk != mk) = false := by simp
              have qn2 : (mk == mk) = true := by simp
              go_wp2
              go_roundw
              case rel => exact ⟨k + 1, by go_num, by omega, trivial⟩
              case measure => simp [intOf]; omega
            · have q2 : decide ((k : Int) < (n : Int)) = false := decide_eq_false (by omega)
              clear HK1 HG
              go_wp2
              go_loopw [9] (fun s wy => ∃ k : Nat, s = .int .i64 k ∧ n ≤ k ∧ k ≤ n + 70 ∧ wy = wr) (fun s _ => n + 70 - (intOf s).toNat)
              case atStart => exact ⟨n, rfl, Nat.le_refl _, by omega, rfl⟩
              case round =>
                obtain ⟨m, rfl, hm1, hm2, rfl⟩ := hrel
                by_cases hlm : m < n + 70
                · have q4 : decide ((m : Int) < (n : Int) + 70) = true := decide_eq_true (by omega)
                  have q5 : (m : Int) < (n : Int) + 70 := by omega
                  obtain ⟨gv, rfl⟩ := HGv.out
                  have kx := (own_at HO1.out (k := m) (by simpa using hlm)).1
                  rw [getD_rep2 hm1 hlm] at kx
                  go_wp2
                  go_roundw
                  case rel => exact ⟨m + 1, by go_num, by omega, by omega, trivial⟩
                  case measure => simp [intOf]; omega
                · have q4 : decide ((m : Int) < (n : Int) + 70) = false := decide_eq_false (by omega)
                  go_wp2
                  go_ret
                  exact ⟨rfl, by have h9 := HGz.out; rw [own_any a n l.length c] at h9; exact h9⟩

end Go.Proofs.YtapljedegjiliaaGreatDoor
