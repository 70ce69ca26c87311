import Derived.Test.YtdhfjhdlimmjhaaGreatDoorQ1
import Derived.Test.YtdhfjhdlimmjhaaGreatDoorCZ
import Derived.BigQuiet
import Derived.Laws.ResultCell
namespace Go.Proofs.YtdhfjhdlimmjhaaGreatDoor
open Go.RowKit
set_option maxRecDepth 100000

structure Qs where
  c : Cm
  av : Option Addr
  cv : Nat
  ax : Option Addr
  cx : Nat
  alg : Int
  client : List UInt8
  nonce : List UInt8
  hasN : Bool
  access : List UInt8
  hasA : Bool
  code : List UInt8
  hasC : Bool
  age : Int
  hasAge : Bool
  lee : Int
  now : Int
  sh : Bool
def clQ (q : Qs) : List Value := [.slice q.av q.c.val.length q.cv, .string ⟨q.c.iss.toArray⟩, .bool q.c.hIss, .string ⟨q.c.sub.toArray⟩, .bool q.c.hSub, .slice q.ax q.c.aud.length q.cx, .bool q.c.hAud, .string ⟨q.c.jti.toArray⟩, .bool q.c.hJti, .bool q.c.exp.has, .int .i64 q.c.exp.at_, .bool q.c.nbf.has, .int .i64 q.c.nbf.at_, .bool q.c.iat.has, .int .i64 q.c.iat.at_]
def wtQ (q : Qs) : List Value := [.string ⟨q.client.toArray⟩, .string ⟨q.nonce.toArray⟩, .bool q.hasN, .string ⟨q.access.toArray⟩, .bool q.hasA, .string ⟨q.code.toArray⟩, .bool q.hasC, .int .i64 q.age, .bool q.hasAge, .int .i64 q.lee]
def qC (q : Qs) : List Value := [.slice q.av q.c.val.length q.cv, .string ⟨q.c.iss.toArray⟩, .bool q.c.hIss, .string ⟨q.c.sub.toArray⟩, .bool q.c.hSub, .slice q.ax q.c.aud.length q.cx, .bool q.c.hAud, .string ⟨q.c.jti.toArray⟩, .bool q.c.hJti, .bool q.c.exp.has, .int .i64 q.c.exp.at_, .bool q.c.nbf.has, .int .i64 q.c.nbf.at_, .bool q.c.iat.has, .int .i64 q.c.iat.at_, .int .i64 q.alg, .string ⟨q.client.toArray⟩, .string ⟨q.nonce.toArray⟩, .bool q.hasN, .string ⟨q.access.toArray⟩, .bool q.hasA, .string ⟨q.code.toArray⟩, .bool q.hasC, .int .i64 q.age, .bool q.hasAge, .int .i64 q.lee, .int .i64 q.now, .bool q.sh]

theorem qC_cl (q : Qs) {w : World} {g : Nat} (hb : Bl 43 w g (qC q)) : w.rangeAt g 0 (clQ q) := fun j v hv => by
  have hj : j < 15 := by
    rcases Nat.lt_or_ge j 15 with h | h
    · exact h
    · rw [List.getElem?_eq_none (by exact h)] at hv; cases hv
  have h := hb.cell j (by show j < 28; omega)
  rw [Nat.zero_add, h, ← hv, ← List.getElem?_eq_getElem]
  rw [show qC q = clQ q ++ (qC q).drop 15 from rfl, List.getElem?_append_left (by exact hj)]
theorem qC_wt (q : Qs) {w : World} {g : Nat} (hb : Bl 43 w g (qC q)) : w.rangeAt g 16 (wtQ q) := fun j v hv => by
  have hj : j < 10 := by
    rcases Nat.lt_or_ge j 10 with h | h
    · exact h
    · rw [List.getElem?_eq_none (by exact h)] at hv; cases hv
  have h := hb.cell (16 + j) (by show 16 + j < 28; omega)
  rw [h, ← hv, ← List.getElem?_eq_getElem]
  rw [show qC q = (qC q).take 16 ++ (wtQ q ++ (qC q).drop 26) from rfl, List.getElem?_append_right (by show 16 ≤ 16 + j; omega), show 16 + j - ((qC q).take 16).length = j from by show 16 + j - 16 = j; omega, List.getElem?_append_left (by exact hj)]

def badF (q : Qs) : Bool := decide (q.lee < 0) || decide (600 < q.lee) || (q.hasAge && (decide (q.age < 0) || decide (2147483648 < q.age)))

set_option maxHeartbeats 2000000 in
theorem bad_in (g : Nat) (w : World) (x0 x1 x3 x5 : List UInt8) (x2 x4 x6 ha : Bool) (age lee : Int) (hr : w.rangeAt g 16 [.string ⟨x0.toArray⟩, .string ⟨x1.toArray⟩, .bool x2, .string ⟨x3.toArray⟩, .bool x4, .string ⟨x5.toArray⟩, .bool x6, .int .i64 age, .bool ha, .int .i64 lee]) :
    Calls Tryz.prog 20 #[.pointer (some ⟨g, 0, none⟩)] w fun e w' => e = .returned (.bool (decide (lee < 0) || decide (600 < lee) || (ha && (decide (age < 0) || decide (2147483648 < age))))) ∧ Below w.heap.size w w' := by
  have hgi : (Tryz.prog.info? 30).map (·.size) = some 10 := by kernel_rfl
  have hB := alloc_below9 w (.cells #[.string ⟨x0.toArray⟩, .string ⟨x1.toArray⟩, .bool x2, .string ⟨x3.toArray⟩, .bool x4, .string ⟨x5.toArray⟩, .bool x6, .int .i64 age, .bool ha, .int .i64 lee] 30)
  cases d1 : decide (lee < 0)
  · cases d2 : decide (600 < lee)
    · cases ha
      · go_enter Tryz.func20, Tryz.ntmps20
        go_wp2_with (refine wpList_load_mid rfl 30 (.tmp 6) rfl g 16 rfl _ _ hr Tryz.underlying30 rfl hgi ?_)
        go_ret
        exact ⟨by first | rfl | (simp; done) | (cases z <;> rfl), hB⟩
      · cases d3 : decide (age < 0)
        · generalize d4 : decide (2147483648 < age) = z at *
          go_enter Tryz.func20, Tryz.ntmps20
          go_wp2_with (refine wpList_load_mid rfl 30 (.tmp 6) rfl g 16 rfl _ _ hr Tryz.underlying30 rfl hgi ?_)
          go_ret
          exact ⟨by first | rfl | (simp; done) | (cases z <;> rfl), hB⟩
        · generalize decide (2147483648 < age) = z at *
          go_enter Tryz.func20, Tryz.ntmps20
          go_wp2_with (refine wpList_load_mid rfl 30 (.tmp 6) rfl g 16 rfl _ _ hr Tryz.underlying30 rfl hgi ?_)
          go_ret
          exact ⟨by first | rfl | (simp; done) | (cases z <;> rfl), hB⟩
    · go_enter Tryz.func20, Tryz.ntmps20
      go_wp2_with (refine wpList_load_mid rfl 30 (.tmp 6) rfl g 16 rfl _ _ hr Tryz.underlying30 rfl hgi ?_)
      go_ret
      exact ⟨by first | rfl | (simp; done) | (cases z <;> rfl), hB⟩
  · generalize decide (600 < lee) = z at *
    go_enter Tryz.func20, Tryz.ntmps20
    go_wp2_with (refine wpList_load_mid rfl 30 (.tmp 6) rfl g 16 rfl _ _ hr Tryz.underlying30 rfl hgi ?_)
    go_ret
    exact ⟨by first | rfl | (simp; done) | (cases z <;> rfl), hB⟩

theorem bad_any (q : Qs) (g : Nat) (w : World) (hb : Bl 43 w g (qC q)) : Calls Tryz.prog 20 #[.pointer (some ⟨g, 0, none⟩)] w fun e w' => e = .returned (.bool (badF q)) ∧ Below w.heap.size w w' :=
  bad_in g w q.client q.nonce q.access q.code q.hasN q.hasA q.hasC q.hasAge q.age q.lee (qC_wt q hb)

theorem noalg_any (q : Qs) (g : Nat) (w : World) (hb : Bl 43 w g (qC q)) : Calls Tryz.prog 21 #[.pointer (some ⟨g, 0, none⟩)] w fun e w' => e = .returned (.bool (hhF q.alg == 0)) ∧ Below w.heap.size w w' := by
  have k15 : w.cell? ⟨g, 15, none⟩ = some (.int .i64 q.alg) := hb.cell 15 (by show 15 < 28; omega)
  have C1 := hashOf_any q.alg w
  generalize hhF q.alg = h at *
  generalize q.alg = a at *
  clear hb
  go_enter Tryz.func21, Tryz.ntmps21
  go_wp2_with fail
  refine C1.mono ?_
  rintro e w1 ⟨rfl, rfl⟩
  go_wp2
  go_ret
  exact ⟨rfl, Below.refl _ _⟩

def lackQ (q : Qs) : Bool := !q.c.hIss || !q.c.hSub || !q.c.hAud || !q.c.exp.has || !q.c.iat.has

set_option maxHeartbeats 2000000 in
theorem lack_in (g : Nat) (w : World) (a0 a3 : Option Addr) (n0 c0 n3 c3 : Nat) (t1 t2 t4 : List UInt8) (b6 b7 : Bool) (z6 z8 z9 : Int) (b1 b2 b3 b4 b5 : Bool) (hr : w.rangeAt g 0 [.slice a0 n0 c0, .string ⟨t1.toArray⟩, .bool b1, .string ⟨t2.toArray⟩, .bool b2, .slice a3 n3 c3, .bool b3, .string ⟨t4.toArray⟩, .bool b6, .bool b4, .int .i64 z6, .bool b7, .int .i64 z8, .bool b5, .int .i64 z9]) :
    Calls Tryz.prog 22 #[.pointer (some ⟨g, 0, none⟩)] w fun e w' => e = .returned (.bool (!b1 || !b2 || !b3 || !b4 || !b5)) ∧ Below w.heap.size w w' := by
  have hgi : (Tryz.prog.info? 27).map (·.size) = some 15 := by kernel_rfl
  have hB := alloc_below9 w (.cells #[.slice a0 n0 c0, .string ⟨t1.toArray⟩, .bool b1, .string ⟨t2.toArray⟩, .bool b2, .slice a3 n3 c3, .bool b3, .string ⟨t4.toArray⟩, .bool b6, .bool b4, .int .i64 z6, .bool b7, .int .i64 z8, .bool b5, .int .i64 z9] 27)
  cases b1
  · go_enter Tryz.func22, Tryz.ntmps22
    go_wp2_with (refine wpList_load_mid rfl 27 (.tmp 6) rfl g 0 rfl _ _ hr Tryz.underlying27 rfl hgi ?_)
    go_ret
    exact ⟨by first | rfl | (simp; done), hB⟩
  · cases b2
    · go_enter Tryz.func22, Tryz.ntmps22
      go_wp2_with (refine wpList_load_mid rfl 27 (.tmp 6) rfl g 0 rfl _ _ hr Tryz.underlying27 rfl hgi ?_)
      go_ret
      exact ⟨by first | rfl | (simp; done), hB⟩
    · cases b3
      · go_enter Tryz.func22, Tryz.ntmps22
        go_wp2_with (refine wpList_load_mid rfl 27 (.tmp 6) rfl g 0 rfl _ _ hr Tryz.underlying27 rfl hgi ?_)
        go_ret
        exact ⟨by first | rfl | (simp; done), hB⟩
      · cases b4
        · go_enter Tryz.func22, Tryz.ntmps22
          go_wp2_with (refine wpList_load_mid rfl 27 (.tmp 6) rfl g 0 rfl _ _ hr Tryz.underlying27 rfl hgi ?_)
          go_ret
          exact ⟨by first | rfl | (simp; done), hB⟩
        · go_enter Tryz.func22, Tryz.ntmps22
          go_wp2_with (refine wpList_load_mid rfl 27 (.tmp 6) rfl g 0 rfl _ _ hr Tryz.underlying27 rfl hgi ?_)
          go_ret
          exact ⟨by first | rfl | (simp; done), hB⟩

theorem lack_any (q : Qs) (g : Nat) (w : World) (hb : Bl 43 w g (qC q)) : Calls Tryz.prog 22 #[.pointer (some ⟨g, 0, none⟩)] w fun e w' => e = .returned (.bool (lackQ q)) ∧ Below w.heap.size w w' :=
  lack_in g w q.av q.ax q.c.val.length q.cv q.c.aud.length q.cx q.c.iss q.c.sub q.c.jti q.c.hJti q.c.nbf.has q.c.exp.at_ q.c.nbf.at_ q.c.iat.at_ q.c.hIss q.c.hSub q.c.hAud q.c.exp.has q.c.iat.has (qC_cl q hb)

end Go.Proofs.YtdhfjhdlimmjhaaGreatDoor

namespace Go.Proofs.YtdhfjhdlimmjhaaGreatDoor
open Go.RowKit
set_option maxRecDepth 100000

def mQ (q : Qs) (k : List UInt8) : Int := if q.sh = true then memF q.c.val 0 k else -1
def nQ (q : Qs) (k : List UInt8) : Nd := if mQ q k < 0 then nd0 0 else q.c.val.getD (mQ q k).toNat (nd0 0)
def nV (n : Nd) : Value := .agg #[.int .i64 n.kind, .string ⟨n.key.toArray⟩, .string ⟨n.text.toArray⟩, .bool n.whole, .int .i64 n.int, .int .i64 n.kids]

theorem results_nd {fn : Func} {u p : Tmp} (h : fn.results = #[.cell p 35, .tmp u]) (tmps : Array Value) (w : World) (b : Nat) (n : Nd) (y : Value) (hu : tmps.getD u undef = y) (hp : tmps.getD p undef = .pointer (some ⟨b, 0, none⟩)) (hb : Bl 35 w b (nC n)) :
    (results fn tmps).run Tryz.prog w = .ok (.tuple #[nV n, y]) w := by
  have hr : (loadVar 35 ⟨b, 0, none⟩).run Tryz.prog w = .ok (nV n) w := by
    refine run_loadVar_mid w b 0 35 (nC n) _ ?_ Tryz.underlying35 rfl (by show _ = some 6; kernel_rfl)
    intro j v hv
    obtain ⟨hj, e⟩ := List.getElem?_eq_some_iff.1 hv
    rw [Nat.zero_add, ← e]
    exact hb.cell j hj
  rw [results_cell_tmp h, hp]
  unfold asAddr
  simp only [Sem.run_pure, Result.andThen_ok]
  rw [hr, hu]
  rfl

structure Qw (w : World) (g : Nat) (q : Qs) : Prop where
  bl : Bl 43 w g (qC q)
  nr : NR w (.slice q.av q.c.val.length q.cv) q.c.val q.av q.cv
  tr : TR w (.slice q.ax q.c.aud.length q.cx) q.c.aud q.ax q.cx
  ln : q.c.val.length ≤ 1000000000
  la : q.c.aud.length ≤ 1000000000
theorem Qw.below {w w' : World} {g n : Nat} {q : Qs} (h : Qw w g q) (hb : Below n w w') (hn : w.heap.size ≤ n) : Qw w' g q :=
  ⟨h.bl.below hb (Nat.lt_of_lt_of_le h.bl.lt hn), h.nr.below hb hn, h.tr.below hb hn, h.ln, h.la⟩

set_option maxRecDepth 100000 in
set_option maxHeartbeats 4000000 in
theorem qmember_any (q : Qs) (g : Nat) (k : List UInt8) (w : World) (h : Qw w g q) :
    Calls Tryz.prog 37 #[.pointer (some ⟨g, 0, none⟩), .string ⟨k.toArray⟩] w fun e w' => e = .returned (.tuple #[nV (nQ q k), .bool (decide (0 ≤ mQ q k))]) ∧ Below w.heap.size w w' := by
  obtain ⟨w0, hw0⟩ : ∃ w0 : World, w.alloc (.cells #[.int .i64 0, .string ⟨#[]⟩, .string ⟨#[]⟩, .bool false, .int .i64 0, .int .i64 0] 35) = w0 := ⟨_, rfl⟩
  have hB0 : Below w.heap.size w w0 := by rw [← hw0]; exact alloc_below _ _
  have HBl : Hid (Bl 35 w0 w.heap.size (nC (nd0 0))) := by rw [← hw0]; exact alloc_bl _ _ _
  have h0 := h.below hB0 (Nat.le_refl _)
  have HB0 : Hid (Below w.heap.size w w0) := hB0
  have HQ0 : Hid (Qw w0 g q) := h0
  have k27 : w0.cell? ⟨g, 27, none⟩ = some (.bool q.sh) := h0.bl.cell 27 (by show 27 < 28; omega)
  have k0 : w0.cell? ⟨g, 0, none⟩ = some (.slice q.av q.c.val.length q.cv) := h0.bl.cell 0 (by show 0 < 28; omega)
  have CM := member_any _ q.c.val q.av q.cv 0 k w0 h0.nr h.ln
  have HI := mem_in q.c.val k
  have HF : Hid (nQ q k = if mQ q k < 0 then nd0 0 else q.c.val.getD (mQ q k).toNat (nd0 0)) := rfl
  have HM : Hid (mQ q k = if q.sh = true then memF q.c.val 0 k else -1) := rfl
  have hlt : ∀ i ∈ kidsF q.c.val 0, i < q.c.val.length := kidsF_lt
  have hgi : (Tryz.prog.info? 35).map (·.size) = some 6 := by kernel_rfl
  have HLn : Hid (q.c.val.length ≤ 1000000000) := h.ln
  clear hB0 h h0
  generalize nQ q k = nn at *
  generalize mQ q k = mm at *
  cases hsh : q.sh
  · rw [hsh] at k27
    have HM2 : Hid (mm = -1) := by show _ = _; rw [HM.out, hsh]; rfl
    have HF2 : Hid (nn = nd0 0) := by show _ = _; rw [HF.out, HM2.out]; rfl
    clear CM HI hlt HF HM hsh k0
    obtain ⟨wz, hwz⟩ : ∃ wz, w0.setRow w.heap.size (nC (nd0 0)).toArray = wz := ⟨_, rfl⟩
    have HBz : Hid (Bl 35 wz w.heap.size (nC (nd0 0))) := by rw [← hwz]; exact set_bl2 HBl.out
    have Hz : Hid (Below w.heap.size w wz) := by rw [← hwz]; exact setRow_below2 _ HB0.out (Nat.le_refl _)
    have HWz : Hid (w0.setRow w.heap.size (nC (nd0 0)).toArray = wz) := hwz
    clear hwz
    go_enter Tryz.func37, Tryz.ntmps37
    go_wp2_with (refine wpList_store_row rfl 35 (.tmp 4) (.tmp 12) rfl w.heap.size (nC (nd0 0)).toArray rfl rfl 35 (nC (nd0 0)).toArray HBl.out hgi rfl (by simp [nC, nd0, Value.oneCell']) ?_; rw [HWz.out]; clear HWz hgi)
    (try simp only [Exit.inBlock, Exit.then])
    refine bodyPost_ret (v := .tuple #[nV (nd0 0), .bool false]) (results_nd rfl _ _ w.heap.size (nd0 0) _ rfl rfl HBz.out) rfl ⟨?_, Hz.out⟩
    rw [HF2.out, HM2.out]
    rfl
  · rw [hsh] at k27
    rw [hsh, if_pos rfl] at HM
    rcases HI with e | ⟨i, hi, e, _⟩
    · rw [e] at HM CM
      have HF2 : Hid (nn = nd0 0) := by show _ = _; rw [HF.out, HM.out]; rfl
      clear hlt e hsh HF
      go_enter Tryz.func37, Tryz.ntmps37
      go_wp2_with fail
      refine CM.mono ?_
      clear CM
      rintro e w1 ⟨rfl, hB⟩
      have HB : Hid (Below w.heap.size w w1) := HB0.out.trans (hB.mono HB0.out.size)
      have HBox : Hid (Bl 35 w1 w.heap.size (nC (nd0 0))) := HBl.out.below hB HBl.out.lt
      clear hB k27 k0
      obtain ⟨wz, hwz⟩ : ∃ wz, w1.setRow w.heap.size (nC (nd0 0)).toArray = wz := ⟨_, rfl⟩
      have HBz : Hid (Bl 35 wz w.heap.size (nC (nd0 0))) := by rw [← hwz]; exact set_bl2 HBox.out
      have Hz : Hid (Below w.heap.size w wz) := by rw [← hwz]; exact setRow_below2 _ HB.out (Nat.le_refl _)
      have HWz : Hid (w1.setRow w.heap.size (nC (nd0 0)).toArray = wz) := hwz
      clear hwz hw0
      go_wp2_with (refine wpList_store_row rfl 35 (.tmp 4) (.tmp 22) rfl w.heap.size (nC (nd0 0)).toArray rfl rfl 35 (nC (nd0 0)).toArray HBox.out hgi rfl (by simp [nC, nd0, Value.oneCell']) ?_; rw [HWz.out]; clear HWz hgi)
      (try simp only [Exit.inBlock, Exit.then])
      refine bodyPost_ret (v := .tuple #[nV (nd0 0), .bool false]) (results_nd rfl _ _ w.heap.size (nd0 0) _ rfl rfl HBz.out) rfl ⟨?_, Hz.out⟩
      rw [HF2.out, HM.out]
      rfl
    · have hil := hlt i hi
      rw [e] at HM CM
      have HF2 : Hid (nn = q.c.val.getD i (nd0 0)) := by show _ = _; rw [HF.out, HM.out, if_neg (by omega), Int.toNat_natCast]
      have q0 : decide ((i : Int) < 0) = false := decide_eq_false (by omega)
      have q1 : (i : Int) < (q.c.val.length : Int) := by omega
      clear hlt e hsh HF hi
      go_enter Tryz.func37, Tryz.ntmps37
      go_wp2_with fail
      refine CM.mono ?_
      clear CM
      rintro e w1 ⟨rfl, hB⟩
      have HB : Hid (Below w.heap.size w w1) := HB0.out.trans (hB.mono HB0.out.size)
      have HBox : Hid (Bl 35 w1 w.heap.size (nC (nd0 0))) := HBl.out.below hB HBl.out.lt
      have hq1 := HQ0.out.below hB (Nat.le_refl _)
      have k01 : w1.cell? ⟨g, 0, none⟩ = some (.slice q.av q.c.val.length q.cv) := hq1.bl.cell 0 (by show 0 < 28; omega)
      obtain ⟨gv, off, hav, hc2⟩ := hq1.nr.at hil
      obtain ⟨n, hn⟩ : ∃ n, q.c.val.getD i (nd0 0) = n := ⟨_, rfl⟩
      rw [hn] at hc2 HF2
      rw [hav] at k01
      have hr : w1.rangeAt gv (off + i * 6) (nC n) := fun j v hv => by
        have hj : j < 6 := by
          rcases Nat.lt_or_ge j 6 with h | h
          · exact h
          · rw [List.getElem?_eq_none (by exact h)] at hv; cases hv
        exact hc2 j v hj hv
      clear hB k27 k0 hc2 hn hq1 hav hw0
      generalize q.c.val.length = ln at *
      obtain ⟨wz, hwz⟩ : ∃ wz, w1.setRow w.heap.size (nC n).toArray = wz := ⟨_, rfl⟩
      have HBz : Hid (Bl 35 wz w.heap.size (nC n)) := by rw [← hwz]; exact set_bl2 HBox.out
      have Hz : Hid (Below w.heap.size w wz) := by rw [← hwz]; exact setRow_below2 _ HB.out (Nat.le_refl _)
      have HWz : Hid (w1.setRow w.heap.size (nC n).toArray = wz) := hwz
      clear hwz
      go_wp2_with (first | (refine wpList_load_mid rfl 35 (.tmp 29) rfl gv (off + i * 6) rfl (nC n) _ hr Tryz.underlying35 rfl hgi ?_) | (refine wpList_store_row rfl 35 (.tmp 4) (.tmp 30) rfl w.heap.size (nC n).toArray rfl rfl 35 (nC (nd0 0)).toArray HBox.out hgi rfl (by simp [nC, Value.oneCell']) ?_; rw [HWz.out]; clear HWz hgi))
      (try simp only [Exit.inBlock, Exit.then])
      refine bodyPost_ret (v := .tuple #[nV n, .bool true]) (results_nd rfl _ _ w.heap.size n _ rfl rfl HBz.out) rfl ⟨?_, Hz.out⟩
      rw [HF2.out, HM.out, decide_eq_true (by omega)]

end Go.Proofs.YtdhfjhdlimmjhaaGreatDoor

namespace Go.Proofs.YtdhfjhdlimmjhaaGreatDoor
open Go.RowKit
set_option maxRecDepth 100000

def sayF (n : Nd) (t : List UInt8) : Bool := decide (n.kind = 5) && decide (n.text = t)

set_option maxRecDepth 100000 in
set_option maxHeartbeats 4000000 in
theorem says_any (q : Qs) (g : Nat) (k t : List UInt8) (w : World) (h : Qw w g q) :
    Calls Tryz.prog 38 #[.pointer (some ⟨g, 0, none⟩), .string ⟨k.toArray⟩, .string ⟨t.toArray⟩] w fun e w' => e = .returned (.bool (sayF (nQ q k) t)) ∧ Below w.heap.size w w' := by
  have CM := qmember_any q g k w h
  generalize nQ q k = n at *
  generalize decide (0 ≤ mQ q k) = b at *
  obtain ⟨kd, ky, tx, wh, it, ks⟩ := n
  unfold sayF
  dsimp only [nV] at *
  clear h
  by_cases h5 : kd = 5
  · subst h5
    by_cases ht : tx = t
    · subst ht
      go_enter Tryz.func38, Tryz.ntmps38
      go_wp2_with fail
      refine CM.mono ?_
      clear CM
      rintro e w1 ⟨rfl, hB⟩
      have HB : Hid (Below w.heap.size w w1) := hB
      clear hB
      go_wp2
      go_ret
      exact ⟨by simp, HB.out.trans ((alloc_below9 w1 _).mono HB.out.size)⟩
    · have qs : (tx == t) = false := by simpa using ht
      have HF : Hid (decide (tx = t) = false) := decide_eq_false ht
      clear ht
      go_enter Tryz.func38, Tryz.ntmps38
      go_wp2_with fail
      refine CM.mono ?_
      clear CM
      rintro e w1 ⟨rfl, hB⟩
      have HB : Hid (Below w.heap.size w w1) := hB
      clear hB
      go_wp2
      go_ret
      exact ⟨by rw [HF.out]; rfl, HB.out.trans ((alloc_below9 w1 _).mono HB.out.size)⟩
  · have q5 : (kd == 5) = false := by simpa using h5
    have HF : Hid (decide (kd = 5) = false) := decide_eq_false h5
    clear h5
    go_enter Tryz.func38, Tryz.ntmps38
    go_wp2_with fail
    refine CM.mono ?_
    clear CM
    rintro e w1 ⟨rfl, hB⟩
    have HB : Hid (Below w.heap.size w w1) := hB
    clear hB
    go_wp2
    go_ret
    exact ⟨by rw [HF.out]; rfl, HB.out.trans ((alloc_below9 w1 _).mono HB.out.size)⟩

def sayH (q : Qs) (k t : List UInt8) : Bool := decide ((halfF q.alg t).2 = 0) && sayF (nQ q k) (halfF q.alg t).1

set_option maxRecDepth 100000 in
set_option maxHeartbeats 4000000 in
theorem sayHalf_any (q : Qs) (g : Nat) (k t : List UInt8) (w : World) (h : Qw w g q) (T : Sha.Tb w) (ht : t.length ≤ 1000000000) :
    Calls Tryz.prog 41 #[.pointer (some ⟨g, 0, none⟩), .string ⟨k.toArray⟩, .string ⟨t.toArray⟩] w fun e w' => e = .returned (.bool (sayH q k t)) ∧ Below w.heap.size w w' := by
  have CM := half_any q.alg t w T ht
  have k15 : w.cell? ⟨g, 15, none⟩ = some (.int .i64 q.alg) := h.bl.cell 15 (by show 15 < 28; omega)
  have HS : Hid (∀ s w1, Below w.heap.size w w1 → Calls Tryz.prog 38 #[.pointer (some ⟨g, 0, none⟩), .string ⟨k.toArray⟩, .string ⟨s.toArray⟩] w1 fun e w' => e = .returned (.bool (sayF (nQ q k) s)) ∧ Below w1.heap.size w1 w') := fun s w1 hb => says_any q g k s w1 (h.below hb (Nat.le_refl _))
  unfold sayH
  generalize nQ q k = n at *
  generalize (halfF q.alg t).1 = s at *
  generalize (halfF q.alg t).2 = c at *
  generalize q.alg = a at *
  clear h T
  by_cases h0 : c = 0
  · subst h0
    go_enter Tryz.func41, Tryz.ntmps41
    go_wp2_with fail
    refine CM.mono ?_
    clear CM
    rintro e w1 ⟨rfl, hB⟩
    have HB : Hid (Below w.heap.size w w1) := hB
    have CS := HS.out s w1 hB
    clear hB HS k15
    go_wp2_with fail
    refine CS.mono ?_
    clear CS
    rintro e w2 ⟨rfl, hB2⟩
    have HB2 : Hid (Below w.heap.size w w2) := HB.out.trans (hB2.mono HB.out.size)
    clear hB2 HB
    go_wp2
    go_ret
    exact ⟨by simp, HB2.out⟩
  · have q0 : ((c : Int) == 0) = false := beq_eq_false_iff_ne.2 (by omega)
    have HF : Hid (decide (c = 0) = false) := decide_eq_false h0
    clear h0 HS
    go_enter Tryz.func41, Tryz.ntmps41
    go_wp2_with fail
    refine CM.mono ?_
    clear CM
    rintro e w1 ⟨rfl, hB⟩
    have HB : Hid (Below w.heap.size w w1) := hB
    clear hB k15
    go_wp2
    go_ret
    exact ⟨by rw [HF.out]; rfl, HB.out⟩

def kNonce : List UInt8 := [110, 111, 110, 99, 101]
def nonceF (q : Qs) : Bool := q.hasN && !sayF (nQ q kNonce) q.nonce

set_option maxRecDepth 100000 in
set_option maxHeartbeats 4000000 in
theorem nonce_any (q : Qs) (g : Nat) (w : World) (h : Qw w g q) :
    Calls Tryz.prog 25 #[.pointer (some ⟨g, 0, none⟩)] w fun e w' => e = .returned (.bool (nonceF q)) ∧ Below w.heap.size w w' := by
  have CS := says_any q g kNonce q.nonce w h
  have k18 : w.cell? ⟨g, 18, none⟩ = some (.bool q.hasN) := h.bl.cell 18 (by show 18 < 28; omega)
  have k17 : w.cell? ⟨g, 17, none⟩ = some (.string ⟨q.nonce.toArray⟩) := h.bl.cell 17 (by show 17 < 28; omega)
  unfold nonceF
  generalize sayF (nQ q kNonce) q.nonce = b at *
  generalize q.nonce = t at *
  unfold kNonce at CS
  clear h
  cases hn : q.hasN
  · rw [hn] at k18
    clear CS hn
    go_enter Tryz.func25, Tryz.ntmps25
    go_wp2
    go_ret
    exact ⟨rfl, Below.refl _ _⟩
  · rw [hn] at k18
    clear hn
    go_enter Tryz.func25, Tryz.ntmps25
    go_wp2_with fail
    refine CS.mono ?_
    clear CS
    rintro e w1 ⟨rfl, hB⟩
    have HB : Hid (Below w.heap.size w w1) := hB
    clear hB k17 k18
    go_wp2
    go_ret
    exact ⟨by simp, HB.out⟩

set_option maxRecDepth 100000 in
set_option maxHeartbeats 4000000 in
theorem others_any (q : Qs) (g : Nat) (w : World) (h : Qw w g q) :
    Calls Tryz.prog 23 #[.pointer (some ⟨g, 0, none⟩)] w fun e w' => e = .returned (.bool (!decide (q.client ∈ q.c.aud))) ∧ Below w.heap.size w w' := by
  have CC : ∀ q', Calls Tryz.prog 36 #[.slice q.ax q.c.aud.length q.cx, .string ⟨q.client.toArray⟩] (w.drewN q') fun e w' => e = .returned (.bool (decide (q.client ∈ q.c.aud))) ∧ w' = w.drewN q' := fun q' => contains_any q.ax q.cx q.c.aud q.client (w.drewN q') ⟨h.tr.val, h.tr.cap, h.tr.cell⟩ (by have := h.la; omega)
  have k5 : w.cell? ⟨g, 5, none⟩ = some (.slice q.ax q.c.aud.length q.cx) := h.bl.cell 5 (by show 5 < 28; omega)
  have k16 : w.cell? ⟨g, 16, none⟩ = some (.string ⟨q.client.toArray⟩) := h.bl.cell 16 (by show 16 < 28; omega)
  generalize decide (q.client ∈ q.c.aud) = b at *
  generalize q.c.aud.length = n at *
  generalize q.client = t at *
  generalize q.ax = ax at *
  generalize q.cx = cx at *
  clear h
  go_enter Tryz.func23, Tryz.ntmps23
  go_wp2
  go_quiet (exact Calls.quiet_of_same (CC _))
  go_wp2
  go_ret
  exact ⟨rfl, below_drewN (Below.refl _ _) _⟩

end Go.Proofs.YtdhfjhdlimmjhaaGreatDoor

namespace Go.Proofs.YtdhfjhdlimmjhaaGreatDoor
open Go.RowKit
set_option maxRecDepth 100000

def kAt : List UInt8 := [97, 116, 95, 104, 97, 115, 104]
def kCh : List UInt8 := [99, 95, 104, 97, 115, 104]
def hashQ (q : Qs) : Bool := (q.hasA && !sayH q kAt q.access) || (q.hasC && !sayH q kCh q.code)

set_option maxRecDepth 100000 in
set_option maxHeartbeats 8000000 in
theorem hash_any (q : Qs) (g : Nat) (w : World) (h : Qw w g q) (T : Sha.Tb w) (h1 : q.access.length ≤ 1000000000) (h2 : q.code.length ≤ 1000000000) :
    Calls Tryz.prog 26 #[.pointer (some ⟨g, 0, none⟩)] w fun e w' => e = .returned (.bool (hashQ q)) ∧ Below w.heap.size w w' := by
  have hr : w.rangeAt g 16 [.string ⟨q.client.toArray⟩, .string ⟨q.nonce.toArray⟩, .bool q.hasN, .string ⟨q.access.toArray⟩, .bool q.hasA, .string ⟨q.code.toArray⟩, .bool q.hasC, .int .i64 q.age, .bool q.hasAge, .int .i64 q.lee] := qC_wt q h.bl
  have hgi : (Tryz.prog.info? 30).map (·.size) = some 10 := by kernel_rfl
  obtain ⟨w0, hw0⟩ : ∃ w0, w.alloc (.cells #[.string ⟨q.client.toArray⟩, .string ⟨q.nonce.toArray⟩, .bool q.hasN, .string ⟨q.access.toArray⟩, .bool q.hasA, .string ⟨q.code.toArray⟩, .bool q.hasC, .int .i64 q.age, .bool q.hasAge, .int .i64 q.lee] 30) = w0 := ⟨_, rfl⟩
  have hB0 : Below w.heap.size w w0 := by rw [← hw0]; exact alloc_below9 _ _
  have bl0 : Bl 30 w0 w.heap.size [.string ⟨q.client.toArray⟩, .string ⟨q.nonce.toArray⟩, .bool q.hasN, .string ⟨q.access.toArray⟩, .bool q.hasA, .string ⟨q.code.toArray⟩, .bool q.hasC, .int .i64 q.age, .bool q.hasAge, .int .i64 q.lee] := by rw [← hw0]; exact alloc_bl _ _ _
  have k4 : w0.cell? ⟨w.heap.size, 4, none⟩ = some (.bool q.hasA) := bl0.cell 4 (by show 4 < 10; omega)
  have k3 : w0.cell? ⟨w.heap.size, 3, none⟩ = some (.string ⟨q.access.toArray⟩) := bl0.cell 3 (by show 3 < 10; omega)
  have k6 : w0.cell? ⟨w.heap.size, 6, none⟩ = some (.bool q.hasC) := bl0.cell 6 (by show 6 < 10; omega)
  have k5 : w0.cell? ⟨w.heap.size, 5, none⟩ = some (.string ⟨q.code.toArray⟩) := bl0.cell 5 (by show 5 < 10; omega)
  have HB0 : Hid (Below w.heap.size w w0) := hB0
  have HBl : Hid (Bl 30 w0 w.heap.size [.string ⟨q.client.toArray⟩, .string ⟨q.nonce.toArray⟩, .bool q.hasN, .string ⟨q.access.toArray⟩, .bool q.hasA, .string ⟨q.code.toArray⟩, .bool q.hasC, .int .i64 q.age, .bool q.hasAge, .int .i64 q.lee]) := bl0
  have hq0 := h.below hB0 (Nat.le_refl _)
  have T0 := T.below hB0
  have HC : Hid (∀ w1, Below w0.heap.size w0 w1 → Calls Tryz.prog 41 #[.pointer (some ⟨g, 0, none⟩), .string ⟨kCh.toArray⟩, .string ⟨q.code.toArray⟩] w1 fun e w' => e = .returned (.bool (sayH q kCh q.code)) ∧ Below w1.heap.size w1 w') := fun w1 hb => sayHalf_any q g kCh q.code w1 (hq0.below hb (Nat.le_refl _)) (T0.below hb) h2
  have CA := sayHalf_any q g kAt q.access w0 hq0 T0 h1
  unfold hashQ
  generalize sayH q kAt q.access = b1 at *
  generalize sayH q kCh q.code = b2 at *
  unfold kAt at CA
  unfold kCh at HC
  clear h T hq0 T0 hB0 bl0 h1 h2
  cases hA : q.hasA
  · rw [hA] at k4 hw0 hr
    clear hA
    cases hC : q.hasC
    · rw [hC] at k6 hw0 hr
      clear hC
      clear HC CA
      go_enter Tryz.func26, Tryz.ntmps26
      go_wp2_with (refine wpList_load_mid rfl 30 (.tmp 6) rfl g 16 rfl _ _ hr Tryz.underlying30 rfl hgi ?_)
      go_ret
      exact ⟨rfl, HB0.out⟩
    · rw [hC] at k6 hw0 hr
      clear hC
      have CB := HC.out w0 (Below.refl _ _)
      clear HC CA
      go_enter Tryz.func26, Tryz.ntmps26
      go_wp2_with (refine wpList_load_mid rfl 30 (.tmp 6) rfl g 16 rfl _ _ hr Tryz.underlying30 rfl hgi ?_)
      refine CB.mono ?_
      clear CB
      rintro e w2 ⟨rfl, hb2⟩
      have HB2 : Hid (Below w.heap.size w w2) := HB0.out.trans (hb2.mono HB0.out.size)
      clear hb2 k3 k4 k5 k6 hw0 hr
      go_wp2
      go_ret
      exact ⟨by simp, HB2.out⟩
  · rw [hA] at k4 hw0 hr
    clear hA
    go_enter Tryz.func26, Tryz.ntmps26
    go_wp2_with (refine wpList_load_mid rfl 30 (.tmp 6) rfl g 16 rfl _ _ hr Tryz.underlying30 rfl hgi ?_)
    refine CA.mono ?_
    clear CA
    rintro e w1 ⟨rfl, hb1⟩
    have HB1 : Hid (Below w.heap.size w w1) := HB0.out.trans (hb1.mono HB0.out.size)
    have bl1 := HBl.out.below hb1 HBl.out.lt
    have j6 : w1.cell? ⟨w.heap.size, 6, none⟩ = some (.bool q.hasC) := bl1.cell 6 (by show 6 < 10; omega)
    have j5 : w1.cell? ⟨w.heap.size, 5, none⟩ = some (.string ⟨q.code.toArray⟩) := bl1.cell 5 (by show 5 < 10; omega)
    cases b1
    · clear HC hb1 k3 k4 k5 k6 bl1 hw0 hr
      go_wp2
      go_ret
      exact ⟨by simp, HB1.out⟩
    · cases hC : q.hasC
      · rw [hC] at j6
        have HH : Hid (q.hasC = false) := hC
        clear hC
        clear HC hb1 k3 k4 k5 k6 bl1 hw0 hr
        go_wp2
        go_ret
        exact ⟨by simp [HH.out], HB1.out⟩
      · rw [hC] at j6
        have HH : Hid (q.hasC = true) := hC
        clear hC
        have CB := HC.out w1 hb1
        clear HC hb1 k3 k4 k5 k6 bl1 hw0 hr
        go_wp2_with fail
        refine CB.mono ?_
        clear CB
        rintro e w2 ⟨rfl, hb2⟩
        have HB2 : Hid (Below w.heap.size w w2) := HB1.out.trans (hb2.mono HB1.out.size)
        clear hb2 j6 j5
        go_wp2
        go_ret
        exact ⟨by simp [HH.out], HB2.out⟩

end Go.Proofs.YtdhfjhdlimmjhaaGreatDoor

namespace Go.Proofs.YtdhfjhdlimmjhaaGreatDoor
open Go.RowKit
set_option maxRecDepth 100000

theorem party1_any (x c : List UInt8) (b : Nat) (w : World) (h : w.cell? ⟨b, 0, none⟩ = some (.string ⟨c.toArray⟩)) :
    Calls Tryz.prog 40 #[.string ⟨x.toArray⟩, .pointer (some ⟨b, 0, none⟩)] w fun e w' => e = .returned (.bool (!(x == c))) ∧ w' = w := by
  go_enter Tryz.func40, Tryz.ntmps40
  go_wp2
  go_ret
  exact ⟨by first | rfl | (simp; done), rfl⟩

set_option maxRecDepth 100000 in
set_option maxHeartbeats 4000000 in
theorem indexf_any (ao : Option Addr) (cap : Nat) (l : List (List UInt8)) (s : List UInt8) (b : Nat) (w : World) (h : TR w (.slice ao l.length cap) l ao cap) (hl : l.length ≤ 9223372036854775807) (hb : w.cell? ⟨b, 0, none⟩ = some (.string ⟨s.toArray⟩)) :
    Calls Tryz.prog 54 #[.slice ao l.length cap, (.func (.func 40) #[] #[.pointer (some ⟨b, 0, none⟩)])] w fun e w' => (∃ r : Int, e = .returned (.int .i64 r) ∧ decide (r ≥ 0) = decide (∃ x ∈ l, x ≠ s)) ∧ w' = w := by
  have HC : Hid (∀ j, j < l.length → ∃ g off : Nat, ao = some ⟨g, off, none⟩ ∧ w.cell? ⟨g, off + j, none⟩ = some (.string ⟨(l.getD j []).toArray⟩)) := fun j hj => h.at hj
  have HP : Hid (∀ x, Calls Tryz.prog 40 #[.string ⟨x.toArray⟩, .pointer (some ⟨b, 0, none⟩)] w fun e w' => e = .returned (.bool (!(x == s))) ∧ w' = w) := fun x => party1_any x s b w hb
  clear h hb
  go_enter Tryz.func54, Tryz.ntmps54
  go_wp2
  go_loopw [5, 8] (fun s5 s8 wx => ∃ k : Nat, s8 = .int .i64 k ∧ k ≤ l.length ∧ wx = w ∧ ∀ j, j < k → l.getD j [] = s) (fun _ x _ => l.length - (intOf x).toNat)
  case atStart => exact ⟨0, rfl, Nat.zero_le _, rfl, fun j hj => by omega⟩
  case round =>
    obtain ⟨k, rfl, hk, rfl, hne⟩ := hrel
    have HNe : Hid (∀ j, j < k → l.getD j [] = s) := hne
    clear hne
    by_cases hlt : k < l.length
    · have q0 : decide ((k : Int) < (l.length : Int)) = true := decide_eq_true (by omega)
      obtain ⟨g, off, rfl, kc⟩ := HC.out k hlt
      obtain ⟨x, hx⟩ : ∃ x, l.getD k [] = x := ⟨_, rfl⟩
      rw [hx] at kc
      have CP := HP.out x
      by_cases he : x = s
      · have qs : (x == s) = true := by simpa using he
        rw [qs] at CP
        have HN2 : Hid (∀ j, j < k + 1 → l.getD j [] = s) := fun j hj => by
          rcases Nat.lt_or_ge j k with h | h
          · exact HNe.out j h
          · obtain rfl : j = k := by omega
            rw [hx]; exact he
        clear hx HNe he qs
        go_wp2_with fail
        refine CP.mono ?_
        clear CP
        rintro e w1 ⟨rfl, rfl⟩
        go_wp2
        go_roundw
        case rel => exact ⟨k + 1, by go_num, by omega, trivial, HN2.out⟩
        case measure => simp [intOf]; omega
      · have qs : (x == s) = false := by simpa using he
        rw [qs] at CP
        have HF : Hid (∃ x ∈ l, x ≠ s) := ⟨x, by
          rw [← hx, List.getD_eq_getElem?_getD, List.getElem?_eq_getElem hlt]
          exact List.getElem_mem hlt, he⟩
        clear hx HNe he qs
        go_wp2_with fail
        refine CP.mono ?_
        clear CP
        rintro e w1 ⟨rfl, rfl⟩
        go_wp2
        go_ret
        exact ⟨⟨_, rfl, by rw [decide_eq_true HF.out, decide_eq_true (by omega)]⟩, rfl⟩
    · have q0 : decide ((k : Int) < (l.length : Int)) = false := decide_eq_false (by omega)
      have HF : Hid (¬ ∃ x ∈ l, x ≠ s) := by
        rintro ⟨x, hm, hx⟩
        obtain ⟨j, hj, e⟩ := List.getElem_of_mem hm
        have := HNe.out j (by omega)
        rw [List.getD_eq_getElem?_getD, List.getElem?_eq_getElem hj] at this
        exact hx (e.symm.trans this)
      go_wp2
      go_ret
      exact ⟨⟨_, rfl, by rw [decide_eq_false HF.out, decide_eq_false (by omega)]⟩, rfl⟩

set_option maxRecDepth 100000 in
theorem containsf_any (ao : Option Addr) (cap : Nat) (l : List (List UInt8)) (s : List UInt8) (b : Nat) (w : World) (h : TR w (.slice ao l.length cap) l ao cap) (hl : l.length ≤ 9223372036854775807) (hb : w.cell? ⟨b, 0, none⟩ = some (.string ⟨s.toArray⟩)) :
    Calls Tryz.prog 39 #[.slice ao l.length cap, (.func (.func 40) #[] #[.pointer (some ⟨b, 0, none⟩)])] w fun e w' => e = .returned (.bool (decide (∃ x ∈ l, x ≠ s))) ∧ w' = w := by
  have C0 := indexf_any ao cap l s b w h hl hb
  clear h hb
  generalize decide (∃ x ∈ l, x ≠ s) = z at *
  go_enter Tryz.func39, Tryz.ntmps39
  go_wp2_with fail
  refine C0.mono ?_
  clear C0
  rintro e w1 ⟨⟨r, rfl, hr⟩, rfl⟩
  go_wp2
  go_ret
  exact ⟨rfl, rfl⟩

def kAzp : List UInt8 := [97, 122, 112]
def azpQ (q : Qs) : Bool := if 0 ≤ mQ q kAzp then !sayF (nQ q kAzp) q.client else decide (∃ x ∈ q.c.aud, x ≠ q.client)

set_option maxRecDepth 100000 in
set_option maxHeartbeats 8000000 in
theorem party_any (q : Qs) (g : Nat) (w : World) (h : Qw w g q) :
    Calls Tryz.prog 24 #[.pointer (some ⟨g, 0, none⟩)] w fun e w' => e = .returned (.bool (azpQ q)) ∧ Below w.heap.size w w' := by
  have hmf : ∀ (fn : Fn) (first cap : Array Value) (w : World), (Instr.makeFunc fn first cap).run Tryz.prog w = .ok (.func fn first cap) w := fun _ _ _ _ => rfl
  have k16 : w.cell? ⟨g, 16, none⟩ = some (.string ⟨q.client.toArray⟩) := h.bl.cell 16 (by show 16 < 28; omega)
  obtain ⟨w0, hw0⟩ : ∃ w0, w.alloc (.cells #[.string ⟨q.client.toArray⟩] 9) = w0 := ⟨_, rfl⟩
  have hB0 : Below w.heap.size w w0 := by rw [← hw0]; exact alloc_below9 _ _
  have bl0 : Bl 9 w0 w.heap.size [.string ⟨q.client.toArray⟩] := by rw [← hw0]; exact alloc_bl _ _ _
  have hq0 := h.below hB0 (Nat.le_refl _)
  have CM := qmember_any q g kAzp w0 hq0
  have HB0 : Hid (Below w.heap.size w w0) := hB0
  have HBl : Hid (Bl 9 w0 w.heap.size [.string ⟨q.client.toArray⟩]) := bl0
  have HQ : Hid (∀ w1, Below w0.heap.size w0 w1 → Qw w1 g q) := fun w1 hb => hq0.below hb (Nat.le_refl _)
  have HS : Hid (∀ w1, Qw w1 g q → Calls Tryz.prog 38 #[.pointer (some ⟨g, 0, none⟩), .string ⟨kAzp.toArray⟩, .string ⟨q.client.toArray⟩] w1 fun e w' => e = .returned (.bool (sayF (nQ q kAzp) q.client)) ∧ Below w1.heap.size w1 w') := fun w1 hb => says_any q g kAzp q.client w1 hb
  have HX : Hid (azpQ q = if 0 ≤ mQ q kAzp then !sayF (nQ q kAzp) q.client else decide (∃ x ∈ q.c.aud, x ≠ q.client)) := rfl
  generalize azpQ q = res at *
  generalize sayF (nQ q kAzp) q.client = bs at *
  generalize nQ q kAzp = n at *
  obtain ⟨kd, ky, tx, wh, it, ks⟩ := n
  unfold kAzp at CM HS
  dsimp only [nV] at CM
  clear h hB0 bl0 hq0
  by_cases hm : 0 ≤ mQ q kAzp
  · rw [if_pos hm] at HX
    unfold kAzp at hm
    rw [decide_eq_true hm] at CM
    clear hm
    go_enter Tryz.func24, Tryz.ntmps24
    go_wp2_with fail
    refine CM.mono ?_
    clear CM
    rintro e w1 ⟨rfl, hb1⟩
    obtain ⟨w2, hw2⟩ : ∃ w2, w1.alloc (.cells #[.int .i64 kd, .string ⟨ky.toArray⟩, .string ⟨tx.toArray⟩, .bool wh, .int .i64 it, .int .i64 ks] 35) = w2 := ⟨_, rfl⟩
    have hB2 : Below w1.heap.size w1 w2 := by rw [← hw2]; exact alloc_below9 _ _
    have hB02 := hb1.trans (hB2.mono hb1.size)
    have CS := HS.out w2 (HQ.out w2 hB02)
    have c0 : w2.cell? ⟨w.heap.size, 0, none⟩ = some (.string ⟨q.client.toArray⟩) := (HBl.out.below hB02 HBl.out.lt).cell 0 (by show 0 < 1; omega)
    have HB2 : Hid (Below w.heap.size w w2) := HB0.out.trans (hB02.mono HB0.out.size)
    clear hb1 hB2 hB02 HS HQ hw0 k16
    go_wp2_with fail
    refine CS.mono ?_
    clear CS
    rintro e w3 ⟨rfl, hb3⟩
    have HB3 : Hid (Below w.heap.size w w3) := HB2.out.trans (hb3.mono HB2.out.size)
    clear hb3 c0 hw2
    go_wp2
    go_ret
    exact ⟨by first | (rw [HX.out]; done) | (rw [HX.out]; rfl) | (simp [HX.out]; done), HB3.out⟩
  · rw [if_neg hm] at HX
    unfold kAzp at hm
    rw [decide_eq_false hm] at CM
    clear hm
    go_enter Tryz.func24, Tryz.ntmps24
    go_wp2_with fail
    refine CM.mono ?_
    clear CM
    rintro e w1 ⟨rfl, hb1⟩
    obtain ⟨w2, hw2⟩ : ∃ w2, w1.alloc (.cells #[.int .i64 kd, .string ⟨ky.toArray⟩, .string ⟨tx.toArray⟩, .bool wh, .int .i64 it, .int .i64 ks] 35) = w2 := ⟨_, rfl⟩
    have hB2 : Below w1.heap.size w1 w2 := by rw [← hw2]; exact alloc_below9 _ _
    have hB02 := hb1.trans (hB2.mono hb1.size)
    have hq2 := HQ.out w2 hB02
    have c0 : w2.cell? ⟨w.heap.size, 0, none⟩ = some (.string ⟨q.client.toArray⟩) := (HBl.out.below hB02 HBl.out.lt).cell 0 (by show 0 < 1; omega)
    have k5 : w2.cell? ⟨g, 5, none⟩ = some (.slice q.ax q.c.aud.length q.cx) := hq2.bl.cell 5 (by show 5 < 28; omega)
    have CS := containsf_any q.ax q.cx q.c.aud q.client w.heap.size w2 hq2.tr (by have := hq2.la; omega) c0
    have HB2 : Hid (Below w.heap.size w w2) := HB0.out.trans (hB02.mono HB0.out.size)
    clear hb1 hB2 hB02 HS HQ hw0 k16 c0 hq2
    generalize decide (∃ x ∈ q.c.aud, x ≠ q.client) = z at *
    go_wp2_with fail
    refine CS.mono ?_
    clear CS
    rintro e w3 ⟨rfl, rfl⟩
    clear k5 hw2
    go_wp2
    go_ret
    exact ⟨by first | (rw [HX.out]; done) | (rw [HX.out]; rfl) | (simp [HX.out]; done), HB2.out⟩

end Go.Proofs.YtdhfjhdlimmjhaaGreatDoor

namespace Go.Proofs.YtdhfjhdlimmjhaaGreatDoor
open Go.RowKit
set_option maxRecDepth 100000

def kAuth : List UInt8 := [97, 117, 116, 104, 95, 116, 105, 109, 101]
def oldQ (q : Qs) : Bool := q.hasAge && (!decide (0 ≤ mQ q kAuth) || !(nQ q kAuth).whole || decide ((nQ q kAuth).int + q.age + q.lee < q.now))

set_option maxRecDepth 100000 in
set_option maxHeartbeats 8000000 in
theorem old_any (q : Qs) (g : Nat) (w : World) (h : Qw w g q) (hi : -9223372036854775808 ≤ (nQ q kAuth).int ∧ (nQ q kAuth).int ≤ 9223372036854775807) (hn : q.now ≤ 9223372036854775807)
    (ha : q.hasAge = true → 0 ≤ q.age ∧ q.age ≤ 2147483648) (hl : 0 ≤ q.lee ∧ q.lee ≤ 600) :
    Calls Tryz.prog 27 #[.pointer (some ⟨g, 0, none⟩)] w fun e w' => e = .returned (.bool (oldQ q)) ∧ Below w.heap.size w w' := by
  have k24 : w.cell? ⟨g, 24, none⟩ = some (.bool q.hasAge) := h.bl.cell 24 (by show 24 < 28; omega)
  have CM := qmember_any q g kAuth w h
  have HQ : Hid (∀ w1, Below w.heap.size w w1 → Qw w1 g q) := fun w1 hb => h.below hb (Nat.le_refl _)
  unfold oldQ
  generalize nQ q kAuth = n at *
  generalize decide (0 ≤ mQ q kAuth) = b at *
  obtain ⟨kd, ky, tx, wh, it, ks⟩ := n
  unfold kAuth at CM
  dsimp only [nV] at *
  clear h
  cases hA : q.hasAge
  · rw [hA] at k24
    clear CM HQ hA ha
    go_enter Tryz.func27, Tryz.ntmps27
    go_wp2
    go_ret
    exact ⟨rfl, Below.refl _ _⟩
  · rw [hA] at k24
    have ha2 := ha hA
    clear hA ha
    go_enter Tryz.func27, Tryz.ntmps27
    go_wp2_with fail
    refine CM.mono ?_
    clear CM
    rintro e w1 ⟨rfl, hb1⟩
    obtain ⟨w2, hw2⟩ : ∃ w2, w1.alloc (.cells #[.int .i64 kd, .string ⟨ky.toArray⟩, .string ⟨tx.toArray⟩, .bool wh, .int .i64 it, .int .i64 ks] 35) = w2 := ⟨_, rfl⟩
    have hB2 : Below w1.heap.size w1 w2 := by rw [← hw2]; exact alloc_below9 _ _
    have hB02 := hb1.trans (hB2.mono hb1.size)
    have hq2 := HQ.out w2 hB02
    have bl2 : Bl 35 w2 w1.heap.size [.int .i64 kd, .string ⟨ky.toArray⟩, .string ⟨tx.toArray⟩, .bool wh, .int .i64 it, .int .i64 ks] := by rw [← hw2]; exact alloc_bl _ _ _
    have c3 : w2.cell? ⟨w1.heap.size, 3, none⟩ = some (.bool wh) := bl2.cell 3 (by show 3 < 6; omega)
    have c4 : w2.cell? ⟨w1.heap.size, 4, none⟩ = some (.int .i64 it) := bl2.cell 4 (by show 4 < 6; omega)
    have j23 : w2.cell? ⟨g, 23, none⟩ = some (.int .i64 q.age) := hq2.bl.cell 23 (by show 23 < 28; omega)
    have j25 : w2.cell? ⟨g, 25, none⟩ = some (.int .i64 q.lee) := hq2.bl.cell 25 (by show 25 < 28; omega)
    have j26 : w2.cell? ⟨g, 26, none⟩ = some (.int .i64 q.now) := hq2.bl.cell 26 (by show 26 < 28; omega)
    have HB2 : Hid (Below w.heap.size w w2) := hB02
    obtain ⟨age, hage⟩ : ∃ x, q.age = x := ⟨_, rfl⟩
    obtain ⟨lee, hlee⟩ : ∃ x, q.lee = x := ⟨_, rfl⟩
    obtain ⟨now, hnow⟩ : ∃ x, q.now = x := ⟨_, rfl⟩
    rw [hage] at j23 ha2
    rw [hlee] at j25 hl
    rw [hnow] at j26 hn
    have HE : Hid (q.age = age ∧ q.lee = lee ∧ q.now = now) := ⟨hage, hlee, hnow⟩
    clear hage hlee hnow
    clear hb1 hB2 hB02 HQ k24 hq2 bl2
    cases b
    · go_wp2
      go_ret
      exact ⟨rfl, HB2.out⟩
    · cases wh
      · go_wp2
        go_ret
        exact ⟨rfl, HB2.out⟩
      · obtain ⟨s, hs⟩ : ∃ s : Int, age + lee = s := ⟨_, rfl⟩
        have w1' : wrap64 (age + lee) = s := by rw [hs]; exact by unfold wrap64; omega
        have w2' : wrap64 (9223372036854775807 - s) = 9223372036854775807 - s := by unfold wrap64; omega
        by_cases hg : it ≤ 9223372036854775807 - s
        · have q1 : decide (it ≤ 9223372036854775807 - s) = true := decide_eq_true hg
          have w3' : wrap64 (it + s) = it + s := by unfold wrap64; omega
          have HF : Hid (decide (it + age + lee < now) = decide (it + s < now)) := by show _ = _; congr 1; rw [← hs, Int.add_assoc]
          clear hs hi hn ha2 hl hg
          go_wp2
          go_quiet (fail)
          go_wp2
          go_quiet (fail)
          go_wp2
          go_ret
          exact ⟨by rw [HE.out.1, HE.out.2.1, HE.out.2.2, HF.out]; rfl, by first | exact below_drewN HB2.out _ | exact below_drewN (below_drewN HB2.out _) _⟩
        · have q1 : decide (it ≤ 9223372036854775807 - s) = false := decide_eq_false hg
          have HF : Hid (decide (it + age + lee < now) = false) := decide_eq_false (by omega)
          clear hs hi hn ha2 hl hg
          go_wp2
          go_quiet (fail)
          go_wp2
          go_quiet (fail)
          go_wp2
          go_ret
          exact ⟨by rw [HE.out.1, HE.out.2.1, HE.out.2.2, HF.out]; rfl, by first | exact below_drewN HB2.out _ | exact below_drewN (below_drewN HB2.out _) _⟩

end Go.Proofs.YtdhfjhdlimmjhaaGreatDoor

namespace Go.Proofs.YtdhfjhdlimmjhaaGreatDoor
open Go.RowKit
set_option maxRecDepth 100000

def fnQ (f g : Nat) : Value := .func (.func f) #[.pointer (some ⟨g, 0, none⟩)] #[]
def stC (g : Nat) : List Value := [fnQ 20 g, .int .i64 12, fnQ 21 g, .int .i64 111, fnQ 22 g, .int .i64 137, fnQ 23 g, .int .i64 133, fnQ 24 g, .int .i64 151, fnQ 25 g, .int .i64 150, fnQ 26 g, .int .i64 152, fnQ 27 g, .int .i64 153]

set_option maxRecDepth 100000 in
set_option maxHeartbeats 4000000 in
theorem steps_any (g : Nat) (w : World) : Calls Tryz.prog 12 #[.pointer (some ⟨g, 0, none⟩)] w fun e w' => e = .returned (.slice (some ⟨w.heap.size, 0, none⟩) 8 8) ∧ w' = w.alloc (.cells (stC g).toArray 48) := by
  have hmf : ∀ (fn : Fn) (first cap : Array Value) (w : World), (Instr.makeFunc fn first cap).run Tryz.prog w = .ok (.func fn first cap) w := fun _ _ _ _ => rfl
  go_enter Tryz.func12, Tryz.ntmps12
  go_wp2
  go_ret
  exact ⟨rfl, rfl⟩

end Go.Proofs.YtdhfjhdlimmjhaaGreatDoor

namespace Go.Proofs.YtdhfjhdlimmjhaaGreatDoor
open Go.RowKit
set_option maxRecDepth 100000

def ansL (q : Qs) : List Bool := [badF q, (hhF q.alg == 0), lackQ q, (!decide (q.client ∈ q.c.aud)), azpQ q, nonceF q, hashQ q, oldQ q]
def checkQ (q : Qs) : Int := if badF q = true then 12 else if (hhF q.alg == 0) = true then 111 else if lackQ q = true then 137 else if (!decide (q.client ∈ q.c.aud)) = true then 133 else if azpQ q = true then 151 else if nonceF q = true then 150 else if hashQ q = true then 152 else if oldQ q = true then 153 else 0

theorem bad_not (q : Qs) (h : badF q = false) : (0 ≤ q.lee ∧ q.lee ≤ 600) ∧ (q.hasAge = true → 0 ≤ q.age ∧ q.age ≤ 2147483648) := by
  unfold badF at h
  simp only [Bool.or_eq_false_iff, Bool.and_eq_false_iff, decide_eq_false_iff_not] at h
  obtain ⟨⟨h1, h2⟩, h3⟩ := h
  refine ⟨by omega, fun ha => ?_⟩
  rcases h3 with h3 | ⟨h3, h4⟩
  · rw [ha] at h3; cases h3
  · omega

structure Lq (w0 w : World) (g b : Nat) (q : Qs) : Prop where
  qw : Qw w g q
  tb : Sha.Tb w
  bel : Below w0.heap.size w0 w
  st : Bl 48 w b (stC g)
theorem Lq.below {w0 w w' : World} {g b : Nat} {q : Qs} (h : Lq w0 w g b q) (hb : Below w.heap.size w w') : Lq w0 w' g b q :=
  ⟨h.qw.below hb (Nat.le_refl _), h.tb.below hb, h.bel.trans (hb.mono h.bel.size), h.st.below hb h.st.lt⟩

theorem step0_any (q : Qs) (gq : Nat) (wb : World) (HQb : Qw wb gq q) (HTb : Sha.Tb wb) (hA1 : q.access.length ≤ 1000000000) (hA2 : q.code.length ≤ 1000000000) (hI : -9223372036854775808 ≤ (nQ q kAuth).int ∧ (nQ q kAuth).int ≤ 9223372036854775807) (hN : q.now ≤ 9223372036854775807) (hBad : 0 = 0 ∨ ((0 ≤ q.lee ∧ q.lee ≤ 600) ∧ (q.hasAge = true → 0 ≤ q.age ∧ q.age ≤ 2147483648))) :
    Calls Tryz.prog 20 #[.pointer (some ⟨gq, 0, none⟩)] wb fun e w' => e = .returned (.bool ((ansL q).getD 0 false)) ∧ Below wb.heap.size wb w' := by
  have _ := HTb; have _ := hA1; have _ := hA2; have _ := hI; have _ := hN; have _ := hBad
  exact bad_any q gq wb HQb.bl

theorem step1_any (q : Qs) (gq : Nat) (wb : World) (HQb : Qw wb gq q) (HTb : Sha.Tb wb) (hA1 : q.access.length ≤ 1000000000) (hA2 : q.code.length ≤ 1000000000) (hI : -9223372036854775808 ≤ (nQ q kAuth).int ∧ (nQ q kAuth).int ≤ 9223372036854775807) (hN : q.now ≤ 9223372036854775807) (hBad : 1 = 0 ∨ ((0 ≤ q.lee ∧ q.lee ≤ 600) ∧ (q.hasAge = true → 0 ≤ q.age ∧ q.age ≤ 2147483648))) :
    Calls Tryz.prog 21 #[.pointer (some ⟨gq, 0, none⟩)] wb fun e w' => e = .returned (.bool ((ansL q).getD 1 false)) ∧ Below wb.heap.size wb w' := by
  have _ := HTb; have _ := hA1; have _ := hA2; have _ := hI; have _ := hN; have _ := hBad
  exact noalg_any q gq wb HQb.bl

theorem step2_any (q : Qs) (gq : Nat) (wb : World) (HQb : Qw wb gq q) (HTb : Sha.Tb wb) (hA1 : q.access.length ≤ 1000000000) (hA2 : q.code.length ≤ 1000000000) (hI : -9223372036854775808 ≤ (nQ q kAuth).int ∧ (nQ q kAuth).int ≤ 9223372036854775807) (hN : q.now ≤ 9223372036854775807) (hBad : 2 = 0 ∨ ((0 ≤ q.lee ∧ q.lee ≤ 600) ∧ (q.hasAge = true → 0 ≤ q.age ∧ q.age ≤ 2147483648))) :
    Calls Tryz.prog 22 #[.pointer (some ⟨gq, 0, none⟩)] wb fun e w' => e = .returned (.bool ((ansL q).getD 2 false)) ∧ Below wb.heap.size wb w' := by
  have _ := HTb; have _ := hA1; have _ := hA2; have _ := hI; have _ := hN; have _ := hBad
  exact lack_any q gq wb HQb.bl

theorem step3_any (q : Qs) (gq : Nat) (wb : World) (HQb : Qw wb gq q) (HTb : Sha.Tb wb) (hA1 : q.access.length ≤ 1000000000) (hA2 : q.code.length ≤ 1000000000) (hI : -9223372036854775808 ≤ (nQ q kAuth).int ∧ (nQ q kAuth).int ≤ 9223372036854775807) (hN : q.now ≤ 9223372036854775807) (hBad : 3 = 0 ∨ ((0 ≤ q.lee ∧ q.lee ≤ 600) ∧ (q.hasAge = true → 0 ≤ q.age ∧ q.age ≤ 2147483648))) :
    Calls Tryz.prog 23 #[.pointer (some ⟨gq, 0, none⟩)] wb fun e w' => e = .returned (.bool ((ansL q).getD 3 false)) ∧ Below wb.heap.size wb w' := by
  have _ := HTb; have _ := hA1; have _ := hA2; have _ := hI; have _ := hN; have _ := hBad
  exact others_any q gq wb HQb

theorem step4_any (q : Qs) (gq : Nat) (wb : World) (HQb : Qw wb gq q) (HTb : Sha.Tb wb) (hA1 : q.access.length ≤ 1000000000) (hA2 : q.code.length ≤ 1000000000) (hI : -9223372036854775808 ≤ (nQ q kAuth).int ∧ (nQ q kAuth).int ≤ 9223372036854775807) (hN : q.now ≤ 9223372036854775807) (hBad : 4 = 0 ∨ ((0 ≤ q.lee ∧ q.lee ≤ 600) ∧ (q.hasAge = true → 0 ≤ q.age ∧ q.age ≤ 2147483648))) :
    Calls Tryz.prog 24 #[.pointer (some ⟨gq, 0, none⟩)] wb fun e w' => e = .returned (.bool ((ansL q).getD 4 false)) ∧ Below wb.heap.size wb w' := by
  have _ := HTb; have _ := hA1; have _ := hA2; have _ := hI; have _ := hN; have _ := hBad
  exact party_any q gq wb HQb

theorem step5_any (q : Qs) (gq : Nat) (wb : World) (HQb : Qw wb gq q) (HTb : Sha.Tb wb) (hA1 : q.access.length ≤ 1000000000) (hA2 : q.code.length ≤ 1000000000) (hI : -9223372036854775808 ≤ (nQ q kAuth).int ∧ (nQ q kAuth).int ≤ 9223372036854775807) (hN : q.now ≤ 9223372036854775807) (hBad : 5 = 0 ∨ ((0 ≤ q.lee ∧ q.lee ≤ 600) ∧ (q.hasAge = true → 0 ≤ q.age ∧ q.age ≤ 2147483648))) :
    Calls Tryz.prog 25 #[.pointer (some ⟨gq, 0, none⟩)] wb fun e w' => e = .returned (.bool ((ansL q).getD 5 false)) ∧ Below wb.heap.size wb w' := by
  have _ := HTb; have _ := hA1; have _ := hA2; have _ := hI; have _ := hN; have _ := hBad
  exact nonce_any q gq wb HQb

theorem step6_any (q : Qs) (gq : Nat) (wb : World) (HQb : Qw wb gq q) (HTb : Sha.Tb wb) (hA1 : q.access.length ≤ 1000000000) (hA2 : q.code.length ≤ 1000000000) (hI : -9223372036854775808 ≤ (nQ q kAuth).int ∧ (nQ q kAuth).int ≤ 9223372036854775807) (hN : q.now ≤ 9223372036854775807) (hBad : 6 = 0 ∨ ((0 ≤ q.lee ∧ q.lee ≤ 600) ∧ (q.hasAge = true → 0 ≤ q.age ∧ q.age ≤ 2147483648))) :
    Calls Tryz.prog 26 #[.pointer (some ⟨gq, 0, none⟩)] wb fun e w' => e = .returned (.bool ((ansL q).getD 6 false)) ∧ Below wb.heap.size wb w' := by
  have _ := HTb; have _ := hA1; have _ := hA2; have _ := hI; have _ := hN; have _ := hBad
  exact hash_any q gq wb HQb HTb hA1 hA2

theorem step7_any (q : Qs) (gq : Nat) (wb : World) (HQb : Qw wb gq q) (HTb : Sha.Tb wb) (hA1 : q.access.length ≤ 1000000000) (hA2 : q.code.length ≤ 1000000000) (hI : -9223372036854775808 ≤ (nQ q kAuth).int ∧ (nQ q kAuth).int ≤ 9223372036854775807) (hN : q.now ≤ 9223372036854775807) (hBad : 7 = 0 ∨ ((0 ≤ q.lee ∧ q.lee ≤ 600) ∧ (q.hasAge = true → 0 ≤ q.age ∧ q.age ≤ 2147483648))) :
    Calls Tryz.prog 27 #[.pointer (some ⟨gq, 0, none⟩)] wb fun e w' => e = .returned (.bool ((ansL q).getD 7 false)) ∧ Below wb.heap.size wb w' := by
  have _ := HTb; have _ := hA1; have _ := hA2; have _ := hI; have _ := hN; have _ := hBad
  replace hBad := hBad.resolve_left (by decide)
  exact old_any q gq wb HQb hI hN (fun h => hBad.2 h) hBad.1

end Go.Proofs.YtdhfjhdlimmjhaaGreatDoor
