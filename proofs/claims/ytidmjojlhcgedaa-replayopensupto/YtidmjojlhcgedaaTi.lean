import Derived.Test.YtidmjojlhcgedaaTh
namespace Go.Proofs.Ytidmjojlhcgedaa
open Go.RowKit Go.Maps
set_option maxRecDepth 100000

theorem numF_one {l : List UInt8} {j : Nat} (h : j < l.length) : numF l j 1 = some (l.getD j 0).toNat := by
  rw [numF_some (by omega)]
  congr 1
  unfold pieceF
  rw [List.drop_eq_getElem_cons h, List.take_succ_cons, List.take_zero, getD_eq _ _ h]
  simp [be]
theorem numF_no1 {l : List UInt8} {j : Nat} (h : ¬ j < l.length) : numF l j 1 = none := numF_none (by omega)
theorem open_e0 {l : List UInt8} (h : l.length = 0) : openR l = .error 0 := by
  unfold openR headR
  rw [numF_no1 (by omega)]
theorem open_e0' {l : List UInt8} (h : 0 < l.length) (h0 : (l.getD 0 0).toNat ≠ 82) : openR l = .error 0 := by
  unfold openR headR
  rw [numF_one h]
  dsimp only
  rw [if_pos h0]
theorem open_e1 {l : List UInt8} (h : l.length = 1) (h0 : (l.getD 0 0).toNat = 82) : openR l = .error 1 := by
  unfold openR headR
  rw [numF_one (by omega)]
  dsimp only
  rw [if_neg (by omega), numF_no1 (by omega)]
theorem open_e1' {l : List UInt8} (h : 2 ≤ l.length) (h0 : (l.getD 0 0).toNat = 82) (h1 : (l.getD 1 0).toNat ≠ 1) : openR l = .error 1 := by
  unfold openR headR
  rw [numF_one (by omega)]
  dsimp only
  rw [if_neg (by omega), numF_one (by omega)]
  dsimp only
  rw [if_pos h1]
theorem open_e2 {l : List UInt8} (h : l.length = 2) (h0 : (l.getD 0 0).toNat = 82) (h1 : (l.getD 1 0).toNat = 1) : openR l = .error 2 := by
  unfold openR headR
  rw [numF_one (by omega)]
  dsimp only
  rw [if_neg (by omega), numF_one (by omega)]
  dsimp only
  rw [if_neg (by omega), numF_no1 (by omega)]
theorem open_e2' {l : List UInt8} (h : 3 ≤ l.length) (h0 : (l.getD 0 0).toNat = 82) (h1 : (l.getD 1 0).toNat = 1) (h2 : 1 < (l.getD 2 0).toNat) : openR l = .error 2 := by
  unfold openR headR
  rw [numF_one (by omega)]
  dsimp only
  rw [if_neg (by omega), numF_one (by omega)]
  dsimp only
  rw [if_neg (by omega), numF_one (by omega)]
  dsimp only
  rw [if_pos h2]
theorem below_set {w0 w : World} {g j : Nat} {v : Value} (h : Below w0.heap.size w0 w) (hg : w0.heap.size ≤ g) : Below w0.heap.size w0 (w.setCell ⟨g, j, none⟩ v) := ⟨h.os, h.tape, h.output, by simpa using h.size, fun k hk => (heap_setCell_other w ⟨g, j, none⟩ k v (by show k ≠ g; omega)).trans (h.block k hk)⟩
/-- Behind the first three bytes. -/
def openS (l : List UInt8) (h : Bool) : Except Nat Bk :=
  match numF l 3 8 with
  | none => .error 3
  | some c => if h = false ∧ c ≠ 0 then .error 3 else
    match tableR l h (s64 c) with
    | .error k => .error k
    | .ok (L, at_) =>
      match endR l at_ with
      | .error k => .error k
      | .ok () => .ok ⟨h, s64 c, L⟩
theorem open_s {l : List UInt8} (h : 3 ≤ l.length) (h0 : (l.getD 0 0).toNat = 82) (h1 : (l.getD 1 0).toNat = 1) {f : Bool} (h2 : (l.getD 2 0).toNat = if f then 1 else 0) : openR l = openS l f := by
  unfold openR headR
  rw [numF_one (by omega)]
  dsimp only
  rw [if_neg (by omega), numF_one (by omega)]
  dsimp only
  rw [if_neg (by omega), numF_one (by omega), h2]
  dsimp only
  unfold openS
  cases numF l 3 8 with
  | none => cases f <;> rfl
  | some c =>
    cases f
    · by_cases hc : c = 0
      · subst hc; rfl
      · simp [hc]
    · simp only [beq_self_eq_true, Bool.true_eq_false, false_and, if_false, if_true, Nat.one_ne_zero]
      rfl
/-- Behind the names that have been read. -/
def openN (l : List UInt8) (h : Bool) (clk : Int) (n at_ : Nat) (acc : List En) : Except Nat Bk :=
  match namesR l clk n at_ acc with
  | .error k => .error k
  | .ok (L, at_) =>
    match endR l at_ with
    | .error k => .error k
    | .ok () => .ok ⟨h, clk, L⟩

theorem ent_err {l : List UInt8} {p k : Nat} {clk : Int} (h : nameR l p = .error k) : entF l p clk = (([], 0), k, false) ∧ k ≤ p + 2 := by
  unfold nameR at h
  unfold entF
  cases hn : numF l p 2 with
  | none => rw [hn] at h; cases h; exact ⟨rfl, by omega⟩
  | some n =>
    rw [hn] at h
    dsimp only at h ⊢
    by_cases h1 : 1024 < n
    · rw [if_pos h1] at h ⊢; cases h; exact ⟨rfl, by omega⟩
    · rw [if_neg h1] at h ⊢
      by_cases h2 : p + 2 + n ≤ l.length
      · rw [if_pos h2] at h; cases h
      · rw [if_neg h2] at h; cases h; rw [if_pos (by omega)]; exact ⟨rfl, Nat.le_refl _⟩
theorem ent_ok {l nm : List UInt8} {p : Nat} {clk : Int} (h : nameR l p = .ok nm) : nm.length ≤ 1024 ∧ p + 2 + nm.length ≤ l.length ∧ entF l p clk = match numF l (p + 2 + nm.length) 8 with | none => ((nm, 0), p + 2 + nm.length + 8, false) | some e => ((nm, s64 e), p + 2 + nm.length + 8, decide (clk ≤ s64 e)) := by
  unfold nameR at h
  unfold entF
  cases hn : numF l p 2 with
  | none => rw [hn] at h; cases h
  | some n =>
    rw [hn] at h
    dsimp only at h ⊢
    by_cases h1 : 1024 < n
    · rw [if_pos h1] at h; cases h
    · rw [if_neg h1] at h ⊢
      by_cases h2 : p + 2 + n ≤ l.length
      · rw [if_pos h2] at h
        have hl := pieceF_length h2
        cases h
        rw [hl, if_neg (by omega)]
        exact ⟨by omega, h2, rfl⟩
      · rw [if_neg h2] at h; cases h
theorem accS {clk : Int} {acc : List En} (hA : AccOk clk acc) {nm : List UInt8} {e : Int} (hb : ¬ (acc ≠ [] ∧ bytesBefore (lastN acc) nm = false)) (hn : nm.length ≤ 1024) (he : ¬ e < clk ∧ e ≤ 9223372036854775807) : AccOk clk (acc ++ [(nm, e)]) := by
  refine hA.snoc (before_all hA.srt ?_) hn ⟨by omega, he.2⟩
  by_cases h0 : acc = []
  · exact .inl h0
  · right
    cases hq : bytesBefore (lastN acc) nm
    · exact absurd ⟨h0, hq⟩ hb
    · rfl
theorem Oq.cell' {w : World} {base c i m : Nat} {ao : Option Addr} {L : List En} (h : Oq w base (.slice ao i c) L) (hl : L.length = i) (hm : m < i) : ∃ ga, ao = some ⟨ga, 0, none⟩ ∧ w.cell? ⟨ga, m * 2, none⟩ = some (.string ⟨(L.getD m en0).1.toArray⟩) := by
  obtain ⟨n, rfl⟩ : ∃ n, i = n + 1 := ⟨i - 1, by omega⟩
  obtain ⟨ga, c', e, _⟩ := Oq.addr (n := n) h hl
  cases e
  exact ⟨ga, rfl, (Oq.cell hl h (by omega)).1⟩
theorem last_getD {acc : List En} {m : Nat} (h : acc.length = m + 1) : lastN acc = (acc.getD m en0).1 := by
  obtain ⟨r, p, rfl⟩ : ∃ r p, acc = r ++ [p] := ⟨acc.dropLast, acc.getLast (fun e => by rw [e] at h; simp at h), (List.dropLast_concat_getLast _).symm⟩
  have hr : r.length = m := by simpa using h
  unfold lastN
  rw [List.getLast?_append, List.getLast?_singleton, getD_eq _ _ (by omega)]
  simp [← hr]
/-- What Open leaves. -/
def ropenP (w : World) (e : Ending) (w' : World) : Except Nat Bk → Prop
  | .error k => e = .returned (.tuple #[.pointer none, .int .i64 163, .int .i64 k]) ∧ Below w.heap.size w w'
  | .ok b => ∃ gm, e = .returned (.tuple #[.pointer (some ⟨gm, 0, none⟩), .int .i64 0, .int .i64 0]) ∧ Mq w' w.heap.size gm b ∧ Below w.heap.size w w'

theorem wp_append_rq {wr : World} {o : Oper} {a : Act} {K : Act → World → Prop} {Q : Exit → Act → World → Prop} (s x : Operand)
    (ho : o.op = .call { callee := .builtin .append, args := #[s, x], argTypes := #[72, 72] })
    (B0 : Nat) (v : Value) (L : List En) (p : En) (hs : a.eval s = v) (hob : Oq wr B0 v L) (hx : a.eval x = .slice (some ⟨wr.heap.size, 0, none⟩) 1 1) (hl : L.length ≤ 1000000000) (hB : B0 ≤ wr.heap.size)
    (h : ∀ v' w', Oq w' B0 v' (L ++ [p]) → Chf (fun k => v.ownBlock = some k) wr w' → K (a.put o.dst v') w') : o.wp Try.prog a (wr.alloc (.cells #[.string ⟨p.1.toArray⟩, .int .i64 p.2] 78)) K Q := by
  obtain ⟨i, hi, hz, hsize, hby⟩ := info_parts infoQ
  have hbl := alloc_bl wr (eC p) 78
  refine wp_append_own_wide _ s x 72 ho B0 78 i _ 2 24 Try.underlying72 hi hz hsize hby rfl (by decide) v L.length (eCs L) hs (hob.below (alloc_below wr _) (Nat.le_refl _)) ⟨wr.heap.size, 0, none⟩ 1 1 (eC p) hx rfl ?_ ?_ (by unfold maxLen; omega) (by omega) (by rw [World.size_alloc]; omega) ?_
  · intro j u hu
    have hj : j < (eC p).length := (List.getElem?_eq_some_iff.1 hu).1
    rw [Addr.add_lit, Nat.zero_add]
    have := hbl.cell j hj
    rw [List.getElem?_eq_getElem hj] at hu
    rw [← hu]
    exact this
  · intro u hu
    simp [eC] at hu
    rcases hu with rfl | rfl <;> rfl
  · intro v' w' h1 h2 _
    refine h v' w' ?_ ?_
    · unfold Oq
      rw [List.length_append, show eCs (L ++ [p]) = eCs L ++ eC p by simp [eCs]]
      exact h1
    · exact ((Chf.refl _ wr).alloc _).grown h2 (fun g hg => .inl hg)

theorem ropen_nil (ao : Option Addr) (cap : Nat) (l : List UInt8) (w : World) (h : l.length = 0) :
    Calls Try.prog 24 #[.slice ao l.length cap] w fun e w' => ropenP w e w' (openR l) := by
  rw [open_e0 h, h]
  go_enter Try.func24, Try.ntmps24
  go_wp2_with fail
  go_ret3
  exact ⟨rfl, Below.refl _ _⟩
theorem ropen_m0 (g off cap : Nat) (l : List UInt8) (w : World) (hr : ∀ j, j < l.length → w.cell? ⟨g, off + j, none⟩ = some (.int .u8 ((l.getD j 0).toNat : Int))) (h : 0 < l.length) (h0 : (l.getD 0 0).toNat ≠ 82) :
    Calls Try.prog 24 #[.slice (some ⟨g, off, none⟩) l.length cap] w fun e w' => ropenP w e w' (openR l) := by
  rw [open_e0' h h0]
  have x0 := hr 0 (by omega)
  rw [Nat.add_zero] at x0
  generalize (l.getD 0 0).toNat = a0 at *
  have q1 : decide ((l.length : Int) < 1) = false := by simp; omega
  have e0 : ((a0 : Int) != 82) = true := by simp; omega
  clear hr
  go_enter Try.func24, Try.ntmps24
  go_wp2_with fail
  go_ret3
  exact ⟨rfl, Below.refl _ _⟩
theorem ropen_s1 (g off cap : Nat) (l : List UInt8) (w : World) (hr : ∀ j, j < l.length → w.cell? ⟨g, off + j, none⟩ = some (.int .u8 ((l.getD j 0).toNat : Int))) (h : l.length = 1) (h0 : (l.getD 0 0).toNat = 82) :
    Calls Try.prog 24 #[.slice (some ⟨g, off, none⟩) l.length cap] w fun e w' => ropenP w e w' (openR l) := by
  rw [open_e1 h h0]
  have x0 := hr 0 (by omega)
  rw [Nat.add_zero] at x0
  rw [h0] at x0
  rw [h]
  clear hr
  go_enter Try.func24, Try.ntmps24
  go_wp2_with fail
  go_ret3
  exact ⟨rfl, Below.refl _ _⟩
theorem ropen_m1 (g off cap : Nat) (l : List UInt8) (w : World) (hr : ∀ j, j < l.length → w.cell? ⟨g, off + j, none⟩ = some (.int .u8 ((l.getD j 0).toNat : Int))) (h : 2 ≤ l.length) (h0 : (l.getD 0 0).toNat = 82) (h1 : (l.getD 1 0).toNat ≠ 1) :
    Calls Try.prog 24 #[.slice (some ⟨g, off, none⟩) l.length cap] w fun e w' => ropenP w e w' (openR l) := by
  rw [open_e1' h h0 h1]
  have x0 := hr 0 (by omega)
  rw [Nat.add_zero] at x0
  have x1 := hr 1 (by omega)
  rw [h0] at x0
  clear h0
  generalize (l.getD 1 0).toNat = a1 at *
  have q1 : decide ((l.length : Int) < 1) = false := by simp; omega
  have q2 : decide ((l.length : Int) < 2) = false := by simp; omega
  have e1 : ((a1 : Int) != 1) = true := by simp; omega
  clear hr
  go_enter Try.func24, Try.ntmps24
  go_wp2_with fail
  go_ret3
  exact ⟨rfl, Below.refl _ _⟩
theorem ropen_s2 (g off cap : Nat) (l : List UInt8) (w : World) (hr : ∀ j, j < l.length → w.cell? ⟨g, off + j, none⟩ = some (.int .u8 ((l.getD j 0).toNat : Int))) (h : l.length = 2) (h0 : (l.getD 0 0).toNat = 82) (h1 : (l.getD 1 0).toNat = 1) :
    Calls Try.prog 24 #[.slice (some ⟨g, off, none⟩) l.length cap] w fun e w' => ropenP w e w' (openR l) := by
  rw [open_e2 h h0 h1]
  have x0 := hr 0 (by omega)
  rw [Nat.add_zero] at x0
  have x1 := hr 1 (by omega)
  rw [h0] at x0
  rw [h1] at x1
  rw [h]
  clear hr
  go_enter Try.func24, Try.ntmps24
  go_wp2_with fail
  go_ret3
  exact ⟨rfl, Below.refl _ _⟩
theorem ropen_m2 (g off cap : Nat) (l : List UInt8) (w : World) (hr : ∀ j, j < l.length → w.cell? ⟨g, off + j, none⟩ = some (.int .u8 ((l.getD j 0).toNat : Int))) (h : 3 ≤ l.length) (h0 : (l.getD 0 0).toNat = 82) (h1 : (l.getD 1 0).toNat = 1) (h2 : 1 < (l.getD 2 0).toNat) :
    Calls Try.prog 24 #[.slice (some ⟨g, off, none⟩) l.length cap] w fun e w' => ropenP w e w' (openR l) := by
  rw [open_e2' h h0 h1 h2]
  have x0 := hr 0 (by omega)
  rw [Nat.add_zero] at x0
  have x1 := hr 1 (by omega)
  have x2 := hr 2 (by omega)
  rw [h0] at x0
  rw [h1] at x1
  clear h0 h1
  generalize (l.getD 2 0).toNat = a2 at *
  have q1 : decide ((l.length : Int) < 1) = false := by simp; omega
  have q2 : decide ((l.length : Int) < 2) = false := by simp; omega
  have q3 : decide ((l.length : Int) < 3) = false := by simp; omega
  have e2 : decide ((a2 : Int) > 1) = true := by simp; omega
  clear hr
  go_enter Try.func24, Try.ntmps24
  go_wp2_with fail
  go_ret3
  exact ⟨rfl, Below.refl _ _⟩
set_option maxHeartbeats 8000000 in
theorem ropen_true (g off cap : Nat) (l : List UInt8) (w : World) (hg : g < w.heap.size) (hr : ∀ j, j < l.length → w.cell? ⟨g, off + j, none⟩ = some (.int .u8 ((l.getD j 0).toNat : Int))) (h : 3 ≤ l.length) (hl : l.length ≤ 10000000) (hcap : l.length ≤ cap) (h0 : (l.getD 0 0).toNat = 82) (h1 : (l.getD 1 0).toNat = 1) (h2 : (l.getD 2 0).toNat = 1) :
    Calls Try.prog 24 #[.slice (some ⟨g, off, none⟩) l.length cap] w fun e w' => ropenP w e w' (openR l) := by
  rw [open_s (f := true) h h0 h1 h2]
  have x0 := hr 0 (by omega)
  rw [Nat.add_zero] at x0
  have x1 := hr 1 (by omega)
  have x2 := hr 2 (by omega)
  rw [h0] at x0
  rw [h1] at x1
  rw [h2] at x2
  clear h0 h1 h2
  have q1 : decide ((l.length : Int) < 1) = false := by simp; omega
  have q2 : decide ((l.length : Int) < 2) = false := by simp; omega
  have q3 : decide ((l.length : Int) < 3) = false := by simp; omega
  have hrd : Hid (Rd w (some ⟨g, off, none⟩) l) := .inr ⟨g, off, rfl, hg, hr⟩
  have GC : Hid (∀ w' p n, Below w.heap.size w w' → p ≤ 1000000000 → n ≤ 8 → Calls Try.prog 39 #[.slice (some ⟨g, off, none⟩) l.length cap, .int .i64 (p : Nat), .int .i64 (n : Nat)] w' fun e wx => e = .returned (.tuple #[.int .u64 ((numF l p n).getD 0 : Nat), .bool (numF l p n).isSome]) ∧ wx = w') := fun w' p n hb hp hn => rget_any (some ⟨g, off, none⟩) cap l p n w' (hrd.out.below hb (Nat.le_refl _)) (by omega) hp hn
  clear hr
  unfold openS
  have G1 := GC.out (w.alloc (.cells #[.bool true, .int .i64 0, .slice none 0 0] 74)) 3 8 (alloc_below _ _) (by omega) (by omega)
  cases hc : numF l 3 8 with
  | none =>
    rw [hc] at G1
    clear hc hrd GC
    go_enter Try.func24, Try.ntmps24
    go_wp2_with fail
    refine G1.mono ?_
    rintro e w1 ⟨rfl, rfl⟩
    go_wp2_with fail
    go_ret3
    exact ⟨rfl, alloc_below _ _⟩
  | some c =>
    rw [hc] at G1
    dsimp only
    rw [if_neg (by simp)]
    obtain ⟨ck, hck⟩ : ∃ ck, s64 c = ck := ⟨_, rfl⟩
    have hw : IntKind.i64.wrap (c : Int) = ck := hck
    rw [hck]
    have hkb : Hid (I64 ck) := by rw [← hck]; exact s64_bounds _
    unfold tableR
    have bh : Bl 74 (w.alloc (.cells #[.bool true, .int .i64 0, .slice none 0 0] 74)) w.heap.size [.bool true, .int .i64 0, .slice none 0 0] := alloc_bl w [.bool true, .int .i64 0, .slice none 0 0] 74
    have hm0 : Hid (Bl 74 (w.alloc (.cells #[.bool true, .int .i64 ck, .slice none 0 0] 74)) w.heap.size [.bool true, .int .i64 ck, .slice none 0 0]) := alloc_bl w [.bool true, .int .i64 ck, .slice none 0 0] 74
    have b0 : Hid (Below w.heap.size w (w.alloc (.cells #[.bool true, .int .i64 ck, .slice none 0 0] 74))) := alloc_below _ _
    have G2 : Hid (∀ w', Below w.heap.size w w' → Calls Try.prog 39 #[.slice (some ⟨g, off, none⟩) l.length cap, .int .i64 (11 : Nat), .int .i64 (4 : Nat)] w' fun e wx => e = .returned (.tuple #[.int .u64 ((numF l 11 4).getD 0 : Nat), .bool (numF l 11 4).isSome]) ∧ wx = w') := fun w' hb => GC.out w' 11 4 hb (by omega) (by omega)
    have c00 := bh.cell 0 (by simp)
    have f01 := bh.frozen 1
    have c01 := bh.cell 1 (by simp)
    simp only [List.getElem_cons_zero, List.getElem_cons_succ] at c00 c01
    clear hc bh
    cases hn : numF l 11 4 with
    | none =>
      rw [hn] at G2
      clear hrd GC hn hkb
      go_enter Try.func24, Try.ntmps24
      go_wp2_with fail
      refine G1.mono ?_
      rintro e w1 ⟨rfl, rfl⟩
      go_upto_region 12 with fail
      obtain ⟨w2, hw2⟩ : ∃ w2, w.alloc (.cells #[.bool true, .int .i64 ck, .slice none 0 0] 74) = w2 := ⟨_, rfl⟩
      rw [hw2] at b0 hm0 ⊢
      have hR2 : Hid (Mr w2 w.heap.size w.heap.size true ck (.slice none 0 0) []) := ⟨hm0.out, Oq.nil _ _, Nat.le_refl _⟩
      have hb2 : Hid (Below w.heap.size w w2) := b0.out
      clear hw2 b0 hm0 c00 c01 f01 G1
      have d00 := hR2.out.cells.cell 0 (by simp)
      simp only [List.getElem_cons_zero] at d00
      go_wp2_with fail
      refine (G2.out w2 hb2.out).mono ?_
      rintro e w3 ⟨rfl, rfl⟩
      clear G2
      go_wp2_with fail
      go_ret3
      exact ⟨rfl, hb2.out⟩
    | some N =>
      rw [hn] at G2
      have hl15 : 15 ≤ l.length := by
        cases Nat.lt_or_ge l.length 15 with
        | inl h => rw [numF_none (by omega)] at hn; cases hn
        | inr h => exact h
      dsimp only
      clear hn
      by_cases hN : 4096 < N
      case pos =>
        rw [if_pos (.inl hN)]
        have qN : decide ((N : Int) > 4096) = true := by simp; omega
        clear hrd GC hkb
        go_enter Try.func24, Try.ntmps24
        go_wp2_with fail
        refine G1.mono ?_
        rintro e w1 ⟨rfl, rfl⟩
        go_upto_region 12 with fail
        obtain ⟨w2, hw2⟩ : ∃ w2, w.alloc (.cells #[.bool true, .int .i64 ck, .slice none 0 0] 74) = w2 := ⟨_, rfl⟩
        rw [hw2] at b0 hm0 ⊢
        have hR2 : Hid (Mr w2 w.heap.size w.heap.size true ck (.slice none 0 0) []) := ⟨hm0.out, Oq.nil _ _, Nat.le_refl _⟩
        have hb2 : Hid (Below w.heap.size w w2) := b0.out
        clear hw2 b0 hm0 c00 c01 f01 G1
        have d00 := hR2.out.cells.cell 0 (by simp)
        simp only [List.getElem_cons_zero] at d00
        go_wp2_with fail
        refine (G2.out w2 hb2.out).mono ?_
        rintro e w3 ⟨rfl, rfl⟩
        clear G2
        go_wp2_with fail
        go_ret3
        exact ⟨rfl, hb2.out⟩
      have qN : decide ((N : Int) > 4096) = false := by simp; omega
      rw [if_neg (by simp; omega)]
      have HX : Hid (∃ X, openN l true ck N 15 [] = X) := ⟨_, rfl⟩
      change Calls _ _ _ _ (fun e w' => ropenP w e w' (openN l true ck N 15 []))
      obtain ⟨X, hX⟩ := HX.out
      rw [hX]
      have hXh : Hid (openN l true ck N 15 [] = X) := hX
      clear hX HX
      go_enter Try.func24, Try.ntmps24
      go_wp2_with fail
      refine G1.mono ?_
      rintro e w1 ⟨rfl, rfl⟩
      go_upto_region 12 with fail
      obtain ⟨w2, hw2⟩ : ∃ w2, w.alloc (.cells #[.bool true, .int .i64 ck, .slice none 0 0] 74) = w2 := ⟨_, rfl⟩
      rw [hw2] at b0 hm0 ⊢
      have hR2 : Hid (Mr w2 w.heap.size w.heap.size true ck (.slice none 0 0) []) := ⟨hm0.out, Oq.nil _ _, Nat.le_refl _⟩
      have hb2 : Hid (Below w.heap.size w w2) := b0.out
      clear hw2 b0 hm0 c00 c01 f01 G1
      have d00 := hR2.out.cells.cell 0 (by simp)
      simp only [List.getElem_cons_zero] at d00
      go_wp2_with fail
      refine (G2.out w2 hb2.out).mono ?_
      rintro e w3 ⟨rfl, rfl⟩
      clear G2
      go_wp2_with fail
      go_loopw [9, 10] (fun s9 s wr => ∃ (i at_ : Nat) (acc : List En) (v : Value), s = .int .u64 (i : Int) ∧ s9 = .int .i64 (at_ : Int) ∧ i ≤ N ∧ at_ ≤ l.length ∧ acc.length = i ∧ Hid (AccOk ck acc) ∧ Mr wr w.heap.size w.heap.size true ck v acc ∧ Below w.heap.size w wr ∧ Hid (openN l true ck (N - i) at_ acc = X)) (fun _ s _ => N - (intOf s).toNat)
      case atStart => exact ⟨0, 15, [], _, rfl, rfl, Nat.zero_le _, hl15, rfl, ⟨List.Pairwise.nil, (fun _ h => nomatch h), (fun _ h => nomatch h)⟩, hR2.out, hb2.out, hXh.out⟩
      case round =>
        obtain ⟨i, at_, acc, v, rfl, rfl, hi, hat, hai, hA, hR', hb', hX⟩ := hrel
        obtain ⟨ao, cp, rfl, _⟩ := hR'.mok
        rw [hai] at hR'
        have haih : Hid (acc.length = i) := hai
        have hR : Hid (Mr wr w.heap.size w.heap.size true ck (.slice ao i cp) acc) := hR'
        have hb : Hid (Below w.heap.size w wr) := hb'
        clear hR' hb' hXh hR2 hb2 hai
        have d1 := hR.out.cells.cell 1 (by simp)
        have d2 := hR.out.cells.cell 2 (by simp)
        simp only [List.getElem_cons_zero, List.getElem_cons_succ] at d1 d2
        by_cases hlt : i < N
        · have E := rentry_any (some ⟨g, off, none⟩) cap l at_ ck wr (hrd.out.below hb.out (Nat.le_refl _)) (by omega) (by omega) hcap
          have hXs := hX.out
          rw [show N - i = (N - (i + 1)) + 1 by omega] at hXs
          unfold openN namesR at hXs
          cases hnm : nameR l at_ with
          | error k =>
            obtain ⟨hE, hk⟩ := ent_err (clk := ck) hnm
            rw [hE] at E
            rw [hnm] at hXs
            have hXk : Hid (X = .error k) := hXs.symm
            have qt : decide ((k : Int) > (at_ : Int) + 2) = false := by simp; omega
            clear hXs hX hnm hE
            go_upto_region 19 with fail
            go_wp2_with fail
            refine E.mono ?_
            rintro e w4 ⟨rfl, hb4⟩
            have hR4 : Hid (Mr w4 w.heap.size w.heap.size true ck (.slice ao i cp) acc) := hR.out.below hb4 (Nat.le_refl _)
            have hb4h : Hid (Below w.heap.size w w4) := hb.out.trans (hb4.mono hb.out.size)
            clear hb4 E d1 d2 hR
            go_wp2_with fail
            go_ret3
            rw [hXk.out]
            exact ⟨rfl, hb4h.out.trans ((alloc_below _ _).mono hb4h.out.size)⟩
          | ok nm =>
            obtain ⟨hn1, hn2, hE⟩ := ent_ok (clk := ck) hnm
            rw [hnm] at hXs
            dsimp only at hXs
            clear hnm hX
            obtain ⟨ah, hah⟩ : ∃ ah, lastN acc = ah := ⟨_, rfl⟩
            obtain ⟨B, hB⟩ : ∃ B, at_ + 2 + nm.length = B := ⟨_, rfl⟩
            obtain ⟨T, hT⟩ : ∃ T, B + 8 = T := ⟨_, rfl⟩
            rw [hB, hT] at hXs
            rw [hB, hT] at hE
            have hAs : Hid (∀ e, ¬ (acc ≠ [] ∧ bytesBefore (lastN acc) nm = false) → ¬ e < ck ∧ e ≤ 9223372036854775807 → AccOk ck (acc ++ [(nm, e)])) := fun e h1 h2 => accS hA.out h1 hn1 h2
            rw [hah] at hXs hAs
            have hbl : Hid (T ≤ l.length ↔ B + 8 ≤ l.length) := by show _ ↔ _; rw [hT]
            have qt : decide ((T : Int) > (at_ : Int) + 2) = true := by simp; omega
            have hTB : (T : Int) - 8 = (B : Int) := by omega
            clear hn1 hA
            have HOK : Hid (∃ e9 y9, entF l at_ ck = ((nm, e9), T, y9)) := by
              rw [hE]
              cases numF l B 8
              · exact ⟨_, _, rfl⟩
              · exact ⟨_, _, rfl⟩
            by_cases hbad : acc ≠ [] ∧ bytesBefore ah nm = false
            case pos =>
              rw [if_pos hbad] at hXs
              have hXk : Hid (X = .error (at_ + 2)) := hXs.symm
              have hi0 : 0 < i := by
                have := haih.out
                have h9 := hbad.1
                cases acc with
                | nil => exact absurd rfl h9
                | cons _ _ => simp at this; omega
              obtain ⟨m, hm⟩ : ∃ m, i = m + 1 := ⟨i - 1, by omega⟩
              have him : (i : Int) - 1 = (m : Int) := by omega
              have qS : (Op.bytesLess nm ah = true ∧ (nm == ah) = false) ∨ (Op.bytesLess nm ah = false ∧ (nm == ah) = true) := by
                by_cases he : nm = ah
                · right; rw [he, less_before, bb_irrefl]; simp
                · left; rw [less_before, bb_total hbad.2 (fun e => he e.symm)]; simpa using he
              obtain ⟨e9, y9, hE9⟩ := HOK.out
              rw [hE9] at E
              clear hXs hE hE9 HOK hbad hAs hbl
              go_upto_region 19 with fail
              go_wp2_with fail
              refine E.mono ?_
              rintro e w4 ⟨rfl, hb4⟩
              have hR4 : Hid (Mr w4 w.heap.size w.heap.size true ck (.slice ao i cp) acc) := hR.out.below hb4 (Nat.le_refl _)
              have hb4h : Hid (Below w.heap.size w w4) := hb.out.trans (hb4.mono hb.out.size)
              clear hb4 E d1 d2 hR
              go_upto_region 20 with fail
              obtain ⟨w5, hw5⟩ : ∃ w5, w4.alloc (.cells #[.string ⟨nm.toArray⟩, .int .i64 e9] 78) = w5 := ⟨_, rfl⟩
              have hx0 : Bl 78 w5 w4.heap.size [.string ⟨nm.toArray⟩, .int .i64 e9] := by rw [← hw5]; exact alloc_bl w4 [.string ⟨nm.toArray⟩, .int .i64 e9] 78
              have hb45 : Below w4.heap.size w4 w5 := hw5 ▸ alloc_below _ _
              obtain ⟨gx, hgx⟩ : ∃ gx, w4.heap.size = gx := ⟨_, rfl⟩
              rw [hgx] at hx0
              rw [hw5, hgx]
              have hR5 : Hid (Mr w5 w.heap.size w.heap.size true ck (.slice ao i cp) acc) := hR4.out.below hb45 (Nat.le_refl _)
              have hb5 : Hid (Below w.heap.size w w5) := hb4h.out.trans (hb45.mono hb4h.out.size)
              have hgx5 : Hid (w.heap.size ≤ gx) := by rw [← hgx]; exact hb4h.out.size
              have hx5 : Hid (Bl 78 w5 gx [.string ⟨nm.toArray⟩, .int .i64 e9]) := hx0
              clear hw5 hb45 hgx hR4 hb4h
              have xc0 := hx0.cell 0 (by simp)
              have xc1 := hx0.cell 1 (by simp)
              have d2 := hR5.out.cells.cell 2 (by simp)
              simp only [List.getElem_cons_zero, List.getElem_cons_succ] at xc0 xc1 d2
              clear hx0
              obtain ⟨ga, rfl, hrow⟩ := hR5.out.own.cell' haih.out (m := m) (by omega)
              rw [← last_getD (by rw [haih.out]; omega), hah] at hrow
              clear hm
              rcases qS with ⟨qa, qb⟩ | ⟨qa, qb⟩
              all_goals go_wp2_with fail
              all_goals go_quiet (fail)
              all_goals go_wp2_with fail
              all_goals go_ret3
              all_goals rw [hXk.out]
              all_goals exact ⟨rfl, below_drewN hb5.out _⟩
            rw [if_neg hbad] at hXs
            have qS : (i = 0) ∨ (Op.bytesLess nm ah = false ∧ (nm == ah) = false ∧ 0 < i) := by
              by_cases hK0 : i = 0
              · left; omega
              · right
                have hb : bytesBefore ah nm = true := by
                  cases hq : bytesBefore ah nm
                  · refine absurd ⟨fun e => ?_, hq⟩ hbad
                    have := haih.out
                    rw [e] at this
                    exact hK0 this.symm
                  · rfl
                refine ⟨by rw [less_before]; exact bb_asymm hb, by simpa using fun e : nm = ah => bb_ne hb e.symm, by omega⟩
            clear HOK
            cases h8 : numF l B 8 with
            | none =>
              rw [h8] at hXs hE
              have hXk : Hid (X = .error B) := hXs.symm
              dsimp only at hE
              rw [hE] at E
              clear hXs hE h8 hAs hbl hbad
              go_upto_region 19 with fail
              go_wp2_with fail
              refine E.mono ?_
              rintro e w4 ⟨rfl, hb4⟩
              have hR4 : Hid (Mr w4 w.heap.size w.heap.size true ck (.slice ao i cp) acc) := hR.out.below hb4 (Nat.le_refl _)
              have hb4h : Hid (Below w.heap.size w w4) := hb.out.trans (hb4.mono hb.out.size)
              clear hb4 E d1 d2 hR
              go_upto_region 20 with fail
              obtain ⟨w5, hw5⟩ : ∃ w5, w4.alloc (.cells #[.string ⟨nm.toArray⟩, .int .i64 0] 78) = w5 := ⟨_, rfl⟩
              have hx0 : Bl 78 w5 w4.heap.size [.string ⟨nm.toArray⟩, .int .i64 0] := by rw [← hw5]; exact alloc_bl w4 [.string ⟨nm.toArray⟩, .int .i64 0] 78
              have hb45 : Below w4.heap.size w4 w5 := hw5 ▸ alloc_below _ _
              obtain ⟨gx, hgx⟩ : ∃ gx, w4.heap.size = gx := ⟨_, rfl⟩
              rw [hgx] at hx0
              rw [hw5, hgx]
              have hR5 : Hid (Mr w5 w.heap.size w.heap.size true ck (.slice ao i cp) acc) := hR4.out.below hb45 (Nat.le_refl _)
              have hb5 : Hid (Below w.heap.size w w5) := hb4h.out.trans (hb45.mono hb4h.out.size)
              have hgx5 : Hid (w.heap.size ≤ gx) := by rw [← hgx]; exact hb4h.out.size
              have hx5 : Hid (Bl 78 w5 gx [.string ⟨nm.toArray⟩, .int .i64 0]) := hx0
              clear hw5 hb45 hgx hR4 hb4h
              have xc0 := hx0.cell 0 (by simp)
              have xc1 := hx0.cell 1 (by simp)
              have d2 := hR5.out.cells.cell 2 (by simp)
              simp only [List.getElem_cons_zero, List.getElem_cons_succ] at xc0 xc1 d2
              clear hx0
              rcases qS with qz | ⟨qa, qb, qc⟩
              · subst qz
                go_wp2_with fail
                go_quiet (fail)
                go_wp2_with fail
                go_ret3
                rw [hXk.out]
                exact ⟨rfl, below_drewN hb5.out _⟩
              · obtain ⟨m, hm⟩ : ∃ m, i = m + 1 := ⟨i - 1, by omega⟩
                have him : (i : Int) - 1 = (m : Int) := by omega
                obtain ⟨ga, rfl, hrow⟩ := hR5.out.own.cell' haih.out (m := m) (by omega)
                rw [← last_getD (by rw [haih.out]; omega), hah] at hrow
                clear hm
                go_wp2_with fail
                go_quiet (fail)
                go_wp2_with fail
                go_ret3
                rw [hXk.out]
                exact ⟨rfl, below_drewN hb5.out _⟩
            | some ev =>
              rw [h8] at hXs hE
              dsimp only at hXs hE
              have hTl : T ≤ l.length := by
                cases Nat.lt_or_ge l.length (B + 8) with
                | inl h => rw [numF_none (by omega)] at h8; cases h8
                | inr h => omega
              have hsb := s64_bounds ev
              obtain ⟨se, hse⟩ : ∃ se, s64 ev = se := ⟨_, rfl⟩
              rw [hse] at hXs hE hsb
              clear h8 hse
              by_cases hlow : se < ck
              case pos =>
                rw [if_pos hlow] at hXs
                have hXk : Hid (X = .error B) := hXs.symm
                rw [hE, show decide (ck ≤ se) = false by simp; omega] at E
                clear hXs hE hAs hbl hbad hlow
                go_upto_region 19 with fail
                go_wp2_with fail
                refine E.mono ?_
                rintro e w4 ⟨rfl, hb4⟩
                have hR4 : Hid (Mr w4 w.heap.size w.heap.size true ck (.slice ao i cp) acc) := hR.out.below hb4 (Nat.le_refl _)
                have hb4h : Hid (Below w.heap.size w w4) := hb.out.trans (hb4.mono hb.out.size)
                clear hb4 E d1 d2 hR
                go_upto_region 20 with fail
                obtain ⟨w5, hw5⟩ : ∃ w5, w4.alloc (.cells #[.string ⟨nm.toArray⟩, .int .i64 se] 78) = w5 := ⟨_, rfl⟩
                have hx0 : Bl 78 w5 w4.heap.size [.string ⟨nm.toArray⟩, .int .i64 se] := by rw [← hw5]; exact alloc_bl w4 [.string ⟨nm.toArray⟩, .int .i64 se] 78
                have hb45 : Below w4.heap.size w4 w5 := hw5 ▸ alloc_below _ _
                obtain ⟨gx, hgx⟩ : ∃ gx, w4.heap.size = gx := ⟨_, rfl⟩
                rw [hgx] at hx0
                rw [hw5, hgx]
                have hR5 : Hid (Mr w5 w.heap.size w.heap.size true ck (.slice ao i cp) acc) := hR4.out.below hb45 (Nat.le_refl _)
                have hb5 : Hid (Below w.heap.size w w5) := hb4h.out.trans (hb45.mono hb4h.out.size)
                have hgx5 : Hid (w.heap.size ≤ gx) := by rw [← hgx]; exact hb4h.out.size
                have hx5 : Hid (Bl 78 w5 gx [.string ⟨nm.toArray⟩, .int .i64 se]) := hx0
                clear hw5 hb45 hgx hR4 hb4h
                have xc0 := hx0.cell 0 (by simp)
                have xc1 := hx0.cell 1 (by simp)
                have d2 := hR5.out.cells.cell 2 (by simp)
                simp only [List.getElem_cons_zero, List.getElem_cons_succ] at xc0 xc1 d2
                clear hx0
                rcases qS with qz | ⟨qa, qb, qc⟩
                · subst qz
                  go_wp2_with fail
                  go_quiet (fail)
                  go_wp2_with fail
                  go_ret3
                  rw [hXk.out]
                  exact ⟨rfl, below_drewN hb5.out _⟩
                · obtain ⟨m, hm⟩ : ∃ m, i = m + 1 := ⟨i - 1, by omega⟩
                  have him : (i : Int) - 1 = (m : Int) := by omega
                  obtain ⟨ga, rfl, hrow⟩ := hR5.out.own.cell' haih.out (m := m) (by omega)
                  rw [← last_getD (by rw [haih.out]; omega), hah] at hrow
                  clear hm
                  go_wp2_with fail
                  go_quiet (fail)
                  go_wp2_with fail
                  go_ret3
                  rw [hXk.out]
                  exact ⟨rfl, below_drewN hb5.out _⟩
              rw [if_neg hlow] at hXs
              have hX2 : Hid (openN l true ck (N - (i + 1)) T (acc ++ [(nm, se)]) = X) := hXs
              have hA2 : Hid (AccOk ck (acc ++ [(nm, se)])) := hAs.out se hbad ⟨hlow, hsb.2⟩
              rw [hE, show decide (ck ≤ se) = true by simp; omega] at E
              clear hXs hE hAs hbl hbad hlow hsb
              go_upto_region 19 with fail
              go_wp2_with fail
              refine E.mono ?_
              rintro e w4 ⟨rfl, hb4⟩
              have hR4 : Hid (Mr w4 w.heap.size w.heap.size true ck (.slice ao i cp) acc) := hR.out.below hb4 (Nat.le_refl _)
              have hb4h : Hid (Below w.heap.size w w4) := hb.out.trans (hb4.mono hb.out.size)
              clear hb4 E d1 d2 hR
              go_upto_region 20 with fail
              obtain ⟨w5, hw5⟩ : ∃ w5, w4.alloc (.cells #[.string ⟨nm.toArray⟩, .int .i64 se] 78) = w5 := ⟨_, rfl⟩
              have hx0 : Bl 78 w5 w4.heap.size [.string ⟨nm.toArray⟩, .int .i64 se] := by rw [← hw5]; exact alloc_bl w4 [.string ⟨nm.toArray⟩, .int .i64 se] 78
              have hb45 : Below w4.heap.size w4 w5 := hw5 ▸ alloc_below _ _
              obtain ⟨gx, hgx⟩ : ∃ gx, w4.heap.size = gx := ⟨_, rfl⟩
              rw [hgx] at hx0
              rw [hw5, hgx]
              have hR5 : Hid (Mr w5 w.heap.size w.heap.size true ck (.slice ao i cp) acc) := hR4.out.below hb45 (Nat.le_refl _)
              have hb5 : Hid (Below w.heap.size w w5) := hb4h.out.trans (hb45.mono hb4h.out.size)
              have hgx5 : Hid (w.heap.size ≤ gx) := by rw [← hgx]; exact hb4h.out.size
              have hx5 : Hid (Bl 78 w5 gx [.string ⟨nm.toArray⟩, .int .i64 se]) := hx0
              clear hw5 hb45 hgx hR4 hb4h
              have xc0 := hx0.cell 0 (by simp)
              have xc1 := hx0.cell 1 (by simp)
              have d2 := hR5.out.cells.cell 2 (by simp)
              simp only [List.getElem_cons_zero, List.getElem_cons_succ] at xc0 xc1 d2
              clear hx0
              rcases qS with qz | ⟨qa, qb, qc⟩
              · subst qz
                go_wp2_with fail
                go_quiet (fail)
                have HSS : Hid (∀ wq, Below w5.heap.size w5 wq → (fun (w' : World) => w'.cell? ⟨w.heap.size, 2, none⟩ = some (.slice ao 0 cp) ∧ w'.cell? ⟨gx, 0, none⟩ = some (.string ⟨nm.toArray⟩) ∧ w'.cell? ⟨gx, 1, none⟩ = some (.int .i64 se)) wq) := fun wq hq => by
                  have h1 := (hR5.out.below hq (Nat.le_refl _)).cells.cell 2 (by simp)
                  have h2 := hx5.out.below hq hx5.out.lt
                  have h3 := h2.cell 0 (by simp)
                  have h4 := h2.cell 1 (by simp)
                  simp only [List.getElem_cons_zero, List.getElem_cons_succ] at h1 h3 h4
                  exact ⟨h1, h3, h4⟩
                go_wp2_with fail
                refine wp_region_K 7 (fun (w' : World) => w'.cell? ⟨w.heap.size, 2, none⟩ = some (.slice ao 0 cp) ∧ w'.cell? ⟨gx, 0, none⟩ = some (.string ⟨nm.toArray⟩) ∧ w'.cell? ⟨gx, 1, none⟩ = some (.int .i64 se)) (by kernel_rfl) ?_
                have hHeld : ((fun (w' : World) => w'.cell? ⟨w.heap.size, 2, none⟩ = some (.slice ao 0 cp) ∧ w'.cell? ⟨gx, 0, none⟩ = some (.string ⟨nm.toArray⟩) ∧ w'.cell? ⟨gx, 1, none⟩ = some (.int .i64 se))) (World.drew (w5.drewN nq)) := HSS.out _ (below_drewN (below_drewN (Below.refl _ _) _) 1)
                refine wpAnyK_take0 0 (v := ?v101) rfl (by kernel_rfl) (fun _ _ _ h => h) (Or.inl ⟨by rfl, ?hy101⟩) (fun _ => hHeld) ?_
                case hy101 => (intro w hSw; go_simp; try with_reducible rfl)
                try simp only [Act.put, List.setIfInBounds_toArray, List.set_cons_zero, List.set_cons_succ]
                refine wpAnyK_take0 1 (v := ?v102) rfl (by kernel_rfl) (fun _ _ _ h => h) (Or.inl ⟨by rfl, ?hy102⟩) (fun _ => hHeld) ?_
                case hy102 => (intro w hSw; go_simp; try with_reducible rfl)
                try simp only [Act.put, List.setIfInBounds_toArray, List.set_cons_zero, List.set_cons_succ]
                refine wpAnyK_take0 2 (v := ?v103) rfl (by kernel_rfl) (fun _ _ _ h => h) (Or.inl ⟨by rfl, ?hy103⟩) (fun _ => hHeld) ?_
                case hy103 => (intro w hSw; go_simp; try with_reducible rfl)
                try simp only [Act.put, List.setIfInBounds_toArray, List.set_cons_zero, List.set_cons_succ]
                refine wpAnyK_take0 3 (v := ?v104) rfl (by kernel_rfl) (fun _ _ _ h => h) (Or.inl ⟨by rfl, ?hy104⟩) (fun _ => hHeld) ?_
                case hy104 => (intro w hSw; go_simp; try with_reducible rfl)
                try simp only [Act.put, List.setIfInBounds_toArray, List.set_cons_zero, List.set_cons_succ]
                refine wpAnyK_take 4 [7] (v := ?v105) rfl (by kernel_rfl) (fun _ _ _ h => h) (Or.inl ⟨by rfl, ?hy105⟩) hHeld ?_
                case hy105 => (intro w hSw; (try dsimp only at hSw); go_simp; try with_reducible rfl)
                try simp only [Act.put, List.setIfInBounds_toArray, List.set_cons_zero, List.set_cons_succ]
                refine wpAnyK_take 5 [6, 7] (v := ?v106) rfl (by kernel_rfl) (fun _ _ _ h => h) (Or.inl ⟨by rfl, ?hy106⟩) hHeld ?_
                case hy106 => (intro w hSw; (try dsimp only at hSw); go_simp; try with_reducible rfl)
                try simp only [Act.put, List.setIfInBounds_toArray, List.set_cons_zero, List.set_cons_succ]
                refine wpAnyK_step 6 rfl (by kernel_rfl) (fun K hK => ?_)
                go_simp
                try dsimp only
                refine hK.out _ _ ?hk107 ?_
                case hk107 => exact fun _ => HSS.out _ ((below_drewN (below_drewN (Below.refl _ _) _) 1).trans ((alloc_below _ _).mono (Nat.le_refl _)))
                clear hK K
                try simp only [Act.put, List.setIfInBounds_toArray, List.set_cons_zero, List.set_cons_succ]
                refine wpAnyK_step 7 rfl (by kernel_rfl) (fun K hK => ?_)
                rw [if_pos (show Region.wanted _ _ = true from rfl)]
                refine wp_append_rq (wr := World.drew (w5.drewN nq)) (.tmp 148) (.tmp 150) rfl w.heap.size _ acc (nm, se) rfl hR5.out.own rfl (by rw [haih.out]; omega) hb5.out.size ?_
                intro v7 w7 h7 hc7
                have hR6 : Mr (World.drew (w5.drewN nq)) w.heap.size w.heap.size true ck _ acc := (hR5.out.drewN _).drewN 1
                obtain ⟨a7, c7, e7, _⟩ := h7.rd
                obtain ⟨n7, hn7⟩ : ∃ n7, (acc ++ [(nm, se)]).length = n7 := ⟨_, rfl⟩
                rw [hn7] at e7
                have hn7h : Hid ((acc ++ [(nm, se)]).length = n7) := hn7
                clear hn7
                subst e7
                have hg7 : Hid (Mr (w7.setCell ⟨w.heap.size, 2, none⟩ (.slice a7 n7 c7)) w.heap.size w.heap.size true ck (.slice a7 n7 c7) (acc ++ [(nm, se)]) ∧ Below w.heap.size w (w7.setCell ⟨w.heap.size, 2, none⟩ (.slice a7 n7 c7))) := by
                        have := hR6.grown hb5.out.size hc7 h7
                        exact ⟨this.1, (below_drewN (below_drewN hb5.out _) 1).trans this.2.1⟩
                have hcl7 := hR6.cells.chf hc7 (fun e => hR6.own.nm hR6.cells _ e rfl)
                have s7 := hcl7.cell 2 (by simp)
                have f7 := hcl7.frozen 2
                simp only [List.getElem_cons_zero, List.getElem_cons_succ] at s7
                clear hcl7 h7 hc7 hR6
                try dsimp only
                refine hK.out _ _ ?hk108 ?_
                case hk108 => exact (fun h => nomatch (h.symm.trans (show _ = true by kernel_rfl)))
                clear hK K
                try simp only [Act.put, List.setIfInBounds_toArray, List.set_cons_zero, List.set_cons_succ]
                refine wpAnyK_take0 8 (v := ?v109) rfl (by kernel_rfl) (fun _ _ _ h => h) (Or.inl ⟨by rfl, ?hy109⟩) (fun h => nomatch (h.symm.trans (show _ = true by kernel_rfl))) ?_
                case hy109 => (intro w hSw; go_simp; try with_reducible rfl)
                try simp only [Act.put, List.setIfInBounds_toArray, List.set_cons_zero, List.set_cons_succ]
                refine wpAnyK_take0 9 (v := ?v110) rfl (by kernel_rfl) (fun _ _ _ h => h) (Or.inl ⟨by rfl, ?hy110⟩) (fun h => nomatch (h.symm.trans (show _ = true by kernel_rfl))) ?_
                case hy110 => (intro w hSw; go_simp; try with_reducible rfl)
                try simp only [Act.put, List.setIfInBounds_toArray, List.set_cons_zero, List.set_cons_succ]
                refine wpAnyK_step 10 rfl (by kernel_rfl) (fun K hK => ?_)
                go_simp
                refine hK.out _ _ ?hk111 ?_
                case hk111 => exact (fun h => nomatch (h.symm.trans (show _ = true by kernel_rfl)))
                clear hK K
                try simp only [Act.put, List.setIfInBounds_toArray, List.set_cons_zero, List.set_cons_succ]
                refine wpAnyK_done (by kernel_rfl) ?_ _
                go_wp2_with fail
                go_roundw
                case rel => exact ⟨0 + 1, T, acc ++ [(nm, se)], _, by go_num, rfl, by omega, hTl, by rw [List.length_append, haih.out]; rfl, hA2, hg7.out.1, hg7.out.2, hX2⟩
                case measure => simp [intOf]; omega
              · obtain ⟨m, hm⟩ : ∃ m, i = m + 1 := ⟨i - 1, by omega⟩
                have him : (i : Int) - 1 = (m : Int) := by omega
                obtain ⟨ga, rfl, hrow⟩ := hR5.out.own.cell' haih.out (m := m) (by omega)
                rw [← last_getD (by rw [haih.out]; omega), hah] at hrow
                clear hm
                go_wp2_with fail
                go_quiet (fail)
                have HSS : Hid (∀ wq, Below w5.heap.size w5 wq → (fun (w' : World) => w'.cell? ⟨w.heap.size, 2, none⟩ = some (.slice (some ⟨ga, 0, none⟩) i cp) ∧ w'.cell? ⟨gx, 0, none⟩ = some (.string ⟨nm.toArray⟩) ∧ w'.cell? ⟨gx, 1, none⟩ = some (.int .i64 se)) wq) := fun wq hq => by
                  have h1 := (hR5.out.below hq (Nat.le_refl _)).cells.cell 2 (by simp)
                  have h2 := hx5.out.below hq hx5.out.lt
                  have h3 := h2.cell 0 (by simp)
                  have h4 := h2.cell 1 (by simp)
                  simp only [List.getElem_cons_zero, List.getElem_cons_succ] at h1 h3 h4
                  exact ⟨h1, h3, h4⟩
                go_wp2_with fail
                refine wp_region_K 7 (fun (w' : World) => w'.cell? ⟨w.heap.size, 2, none⟩ = some (.slice (some ⟨ga, 0, none⟩) i cp) ∧ w'.cell? ⟨gx, 0, none⟩ = some (.string ⟨nm.toArray⟩) ∧ w'.cell? ⟨gx, 1, none⟩ = some (.int .i64 se)) (by kernel_rfl) ?_
                have hHeld : ((fun (w' : World) => w'.cell? ⟨w.heap.size, 2, none⟩ = some (.slice (some ⟨ga, 0, none⟩) i cp) ∧ w'.cell? ⟨gx, 0, none⟩ = some (.string ⟨nm.toArray⟩) ∧ w'.cell? ⟨gx, 1, none⟩ = some (.int .i64 se))) (World.drew (w5.drewN nq)) := HSS.out _ (below_drewN (below_drewN (Below.refl _ _) _) 1)
                refine wpAnyK_take0 0 (v := ?v212) rfl (by kernel_rfl) (fun _ _ _ h => h) (Or.inl ⟨by rfl, ?hy212⟩) (fun _ => hHeld) ?_
                case hy212 => (intro w hSw; go_simp; try with_reducible rfl)
                try simp only [Act.put, List.setIfInBounds_toArray, List.set_cons_zero, List.set_cons_succ]
                refine wpAnyK_take0 1 (v := ?v213) rfl (by kernel_rfl) (fun _ _ _ h => h) (Or.inl ⟨by rfl, ?hy213⟩) (fun _ => hHeld) ?_
                case hy213 => (intro w hSw; go_simp; try with_reducible rfl)
                try simp only [Act.put, List.setIfInBounds_toArray, List.set_cons_zero, List.set_cons_succ]
                refine wpAnyK_take0 2 (v := ?v214) rfl (by kernel_rfl) (fun _ _ _ h => h) (Or.inl ⟨by rfl, ?hy214⟩) (fun _ => hHeld) ?_
                case hy214 => (intro w hSw; go_simp; try with_reducible rfl)
                try simp only [Act.put, List.setIfInBounds_toArray, List.set_cons_zero, List.set_cons_succ]
                refine wpAnyK_take0 3 (v := ?v215) rfl (by kernel_rfl) (fun _ _ _ h => h) (Or.inl ⟨by rfl, ?hy215⟩) (fun _ => hHeld) ?_
                case hy215 => (intro w hSw; go_simp; try with_reducible rfl)
                try simp only [Act.put, List.setIfInBounds_toArray, List.set_cons_zero, List.set_cons_succ]
                refine wpAnyK_take 4 [7] (v := ?v216) rfl (by kernel_rfl) (fun _ _ _ h => h) (Or.inl ⟨by rfl, ?hy216⟩) hHeld ?_
                case hy216 => (intro w hSw; (try dsimp only at hSw); go_simp; try with_reducible rfl)
                try simp only [Act.put, List.setIfInBounds_toArray, List.set_cons_zero, List.set_cons_succ]
                refine wpAnyK_take 5 [6, 7] (v := ?v217) rfl (by kernel_rfl) (fun _ _ _ h => h) (Or.inl ⟨by rfl, ?hy217⟩) hHeld ?_
                case hy217 => (intro w hSw; (try dsimp only at hSw); go_simp; try with_reducible rfl)
                try simp only [Act.put, List.setIfInBounds_toArray, List.set_cons_zero, List.set_cons_succ]
                refine wpAnyK_step 6 rfl (by kernel_rfl) (fun K hK => ?_)
                go_simp
                try dsimp only
                refine hK.out _ _ ?hk218 ?_
                case hk218 => exact fun _ => HSS.out _ ((below_drewN (below_drewN (Below.refl _ _) _) 1).trans ((alloc_below _ _).mono (Nat.le_refl _)))
                clear hK K
                try simp only [Act.put, List.setIfInBounds_toArray, List.set_cons_zero, List.set_cons_succ]
                refine wpAnyK_step 7 rfl (by kernel_rfl) (fun K hK => ?_)
                rw [if_pos (show Region.wanted _ _ = true from rfl)]
                refine wp_append_rq (wr := World.drew (w5.drewN nq)) (.tmp 148) (.tmp 150) rfl w.heap.size _ acc (nm, se) rfl hR5.out.own rfl (by rw [haih.out]; omega) hb5.out.size ?_
                intro v7 w7 h7 hc7
                have hR6 : Mr (World.drew (w5.drewN nq)) w.heap.size w.heap.size true ck _ acc := (hR5.out.drewN _).drewN 1
                obtain ⟨a7, c7, e7, _⟩ := h7.rd
                obtain ⟨n7, hn7⟩ : ∃ n7, (acc ++ [(nm, se)]).length = n7 := ⟨_, rfl⟩
                rw [hn7] at e7
                have hn7h : Hid ((acc ++ [(nm, se)]).length = n7) := hn7
                clear hn7
                subst e7
                have hg7 : Hid (Mr (w7.setCell ⟨w.heap.size, 2, none⟩ (.slice a7 n7 c7)) w.heap.size w.heap.size true ck (.slice a7 n7 c7) (acc ++ [(nm, se)]) ∧ Below w.heap.size w (w7.setCell ⟨w.heap.size, 2, none⟩ (.slice a7 n7 c7))) := by
                        have := hR6.grown hb5.out.size hc7 h7
                        exact ⟨this.1, (below_drewN (below_drewN hb5.out _) 1).trans this.2.1⟩
                have hcl7 := hR6.cells.chf hc7 (fun e => hR6.own.nm hR6.cells _ e rfl)
                have s7 := hcl7.cell 2 (by simp)
                have f7 := hcl7.frozen 2
                simp only [List.getElem_cons_zero, List.getElem_cons_succ] at s7
                clear hcl7 h7 hc7 hR6
                try dsimp only
                refine hK.out _ _ ?hk219 ?_
                case hk219 => exact (fun h => nomatch (h.symm.trans (show _ = true by kernel_rfl)))
                clear hK K
                try simp only [Act.put, List.setIfInBounds_toArray, List.set_cons_zero, List.set_cons_succ]
                refine wpAnyK_take0 8 (v := ?v220) rfl (by kernel_rfl) (fun _ _ _ h => h) (Or.inl ⟨by rfl, ?hy220⟩) (fun h => nomatch (h.symm.trans (show _ = true by kernel_rfl))) ?_
                case hy220 => (intro w hSw; go_simp; try with_reducible rfl)
                try simp only [Act.put, List.setIfInBounds_toArray, List.set_cons_zero, List.set_cons_succ]
                refine wpAnyK_take0 9 (v := ?v221) rfl (by kernel_rfl) (fun _ _ _ h => h) (Or.inl ⟨by rfl, ?hy221⟩) (fun h => nomatch (h.symm.trans (show _ = true by kernel_rfl))) ?_
                case hy221 => (intro w hSw; go_simp; try with_reducible rfl)
                try simp only [Act.put, List.setIfInBounds_toArray, List.set_cons_zero, List.set_cons_succ]
                refine wpAnyK_step 10 rfl (by kernel_rfl) (fun K hK => ?_)
                go_simp
                refine hK.out _ _ ?hk222 ?_
                case hk222 => exact (fun h => nomatch (h.symm.trans (show _ = true by kernel_rfl)))
                clear hK K
                try simp only [Act.put, List.setIfInBounds_toArray, List.set_cons_zero, List.set_cons_succ]
                refine wpAnyK_done (by kernel_rfl) ?_ _
                go_wp2_with fail
                go_roundw
                case rel => exact ⟨i + 1, T, acc ++ [(nm, se)], _, by go_num, rfl, by omega, hTl, by rw [List.length_append, haih.out]; rfl, hA2, hg7.out.1, hg7.out.2, hX2⟩
                case measure => simp [intOf]; omega
        · obtain rfl : i = N := by omega
          have hXs := hX.out
          rw [Nat.sub_self] at hXs
          unfold openN namesR at hXs
          dsimp only at hXs
          unfold endR at hXs
          have G8 := GC.out wr at_ 8 hb.out (by omega) (by omega)
          clear d1 d2 hX hA
          cases h8 : numF l at_ 8 with
          | none =>
            rw [h8] at hXs G8
            have hXk : Hid (X = .error at_) := hXs.symm
            clear hXs h8
            go_wp2_with fail
            refine G8.mono ?_
            rintro e w4 ⟨rfl, rfl⟩
            go_wp2_with fail
            go_ret3
            rw [hXk.out]
            exact ⟨rfl, hb.out⟩
          | some s =>
            have h88 : at_ + 8 ≤ l.length := by
              cases Nat.lt_or_ge l.length (at_ + 8) with
              | inl h => rw [numF_none (by omega)] at h8; cases h8
              | inr h => omega
            have RS := rsum_any (some ⟨g, off, none⟩) (l.take at_) cap wr ((hrd.out.below hb.out (Nat.le_refl _)).take at_) (by rw [List.length_take]; omega)
            rw [List.length_take, Nat.min_eq_left hat] at RS
            rw [h8] at hXs G8
            dsimp only at hXs
            clear h8
            generalize sumF (l.take at_) = sf at RS hXs
            by_cases hs : s = sf
            · subst hs
              rw [if_neg (by simp)] at hXs
              by_cases hf : at_ + 8 = l.length
              · rw [if_pos hf] at hXs
                have hXk : Hid (X = .ok ⟨true, ck, acc⟩) := hXs.symm
                have ql : decide ((at_ : Int) + 8 < (l.length : Int)) = false := by simp; omega
                clear hXs hf
                go_wp2_with fail
                refine G8.mono ?_
                rintro e w4 ⟨rfl, rfl⟩
                go_wp2_with fail
                refine RS.mono ?_
                rintro e w4 ⟨rfl, rfl⟩
                go_wp2_with fail
                go_ret3
                rw [hXk.out]
                exact ⟨_, rfl, ⟨_, acc, hR.out, .refl _⟩, hb.out⟩
              · rw [if_neg hf] at hXs
                have hXk : Hid (X = .error (at_ + 8)) := hXs.symm
                have ql : decide ((at_ : Int) + 8 < (l.length : Int)) = true := by simp; omega
                clear hXs hf
                go_wp2_with fail
                refine G8.mono ?_
                rintro e w4 ⟨rfl, rfl⟩
                go_wp2_with fail
                refine RS.mono ?_
                rintro e w4 ⟨rfl, rfl⟩
                go_wp2_with fail
                go_ret3
                rw [hXk.out]
                exact ⟨rfl, hb.out⟩
            · rw [if_pos hs] at hXs
              have hXk : Hid (X = .error at_) := hXs.symm
              have qs : ((s : Int) != (sf : Int)) = true := by simp; omega
              clear hXs hs
              go_wp2_with fail
              refine G8.mono ?_
              rintro e w4 ⟨rfl, rfl⟩
              go_wp2_with fail
              refine RS.mono ?_
              rintro e w4 ⟨rfl, rfl⟩
              go_wp2_with fail
              go_ret3
              rw [hXk.out]
              exact ⟨rfl, hb.out⟩
set_option maxHeartbeats 8000000 in
theorem ropen_false (g off cap : Nat) (l : List UInt8) (w : World) (hg : g < w.heap.size) (hr : ∀ j, j < l.length → w.cell? ⟨g, off + j, none⟩ = some (.int .u8 ((l.getD j 0).toNat : Int))) (h : 3 ≤ l.length) (hl : l.length ≤ 10000000) (hcap : l.length ≤ cap) (h0 : (l.getD 0 0).toNat = 82) (h1 : (l.getD 1 0).toNat = 1) (h2 : (l.getD 2 0).toNat = 0) :
    Calls Try.prog 24 #[.slice (some ⟨g, off, none⟩) l.length cap] w fun e w' => ropenP w e w' (openR l) := by
  rw [open_s (f := false) h h0 h1 h2]
  have x0 := hr 0 (by omega)
  rw [Nat.add_zero] at x0
  have x1 := hr 1 (by omega)
  have x2 := hr 2 (by omega)
  rw [h0] at x0
  rw [h1] at x1
  rw [h2] at x2
  clear h0 h1 h2
  have q1 : decide ((l.length : Int) < 1) = false := by simp; omega
  have q2 : decide ((l.length : Int) < 2) = false := by simp; omega
  have q3 : decide ((l.length : Int) < 3) = false := by simp; omega
  have hrd : Hid (Rd w (some ⟨g, off, none⟩) l) := .inr ⟨g, off, rfl, hg, hr⟩
  have GC : Hid (∀ w' p n, Below w.heap.size w w' → p ≤ 1000000000 → n ≤ 8 → Calls Try.prog 39 #[.slice (some ⟨g, off, none⟩) l.length cap, .int .i64 (p : Nat), .int .i64 (n : Nat)] w' fun e wx => e = .returned (.tuple #[.int .u64 ((numF l p n).getD 0 : Nat), .bool (numF l p n).isSome]) ∧ wx = w') := fun w' p n hb hp hn => rget_any (some ⟨g, off, none⟩) cap l p n w' (hrd.out.below hb (Nat.le_refl _)) (by omega) hp hn
  clear hr
  unfold openS
  have G1 := GC.out (w.alloc (.cells #[.bool false, .int .i64 0, .slice none 0 0] 74)) 3 8 (alloc_below _ _) (by omega) (by omega)
  cases hc : numF l 3 8 with
  | none =>
    rw [hc] at G1
    clear hc hrd GC
    go_enter Try.func24, Try.ntmps24
    go_wp2_with fail
    refine G1.mono ?_
    rintro e w1 ⟨rfl, rfl⟩
    go_wp2_with fail
    go_ret3
    exact ⟨rfl, alloc_below _ _⟩
  | some c =>
    rw [hc] at G1
    dsimp only
    by_cases hc0 : c = 0
    case neg =>
      rw [if_pos ⟨rfl, hc0⟩]
      have qc : ((c : Int) != 0) = true := by simp; omega
      clear hc hrd GC
      go_enter Try.func24, Try.ntmps24
      go_wp2_with fail
      refine G1.mono ?_
      rintro e w1 ⟨rfl, rfl⟩
      go_wp2_with fail
      go_ret3
      exact ⟨rfl, alloc_below _ _⟩
    subst hc0
    rw [if_neg (by simp)]
    rw [show s64 0 = 0 from rfl]
    have hkb : Hid (I64 0) := by unfold Hid I64; omega
    unfold tableR
    have bh : Bl 74 (w.alloc (.cells #[.bool false, .int .i64 0, .slice none 0 0] 74)) w.heap.size [.bool false, .int .i64 0, .slice none 0 0] := alloc_bl w [.bool false, .int .i64 0, .slice none 0 0] 74
    have hm0 : Hid (Bl 74 (w.alloc (.cells #[.bool false, .int .i64 0, .slice none 0 0] 74)) w.heap.size [.bool false, .int .i64 0, .slice none 0 0]) := alloc_bl w [.bool false, .int .i64 0, .slice none 0 0] 74
    have b0 : Hid (Below w.heap.size w (w.alloc (.cells #[.bool false, .int .i64 0, .slice none 0 0] 74))) := alloc_below _ _
    have G2 : Hid (∀ w', Below w.heap.size w w' → Calls Try.prog 39 #[.slice (some ⟨g, off, none⟩) l.length cap, .int .i64 (11 : Nat), .int .i64 (4 : Nat)] w' fun e wx => e = .returned (.tuple #[.int .u64 ((numF l 11 4).getD 0 : Nat), .bool (numF l 11 4).isSome]) ∧ wx = w') := fun w' hb => GC.out w' 11 4 hb (by omega) (by omega)
    have c00 := bh.cell 0 (by simp)
    have f01 := bh.frozen 1
    have c01 := bh.cell 1 (by simp)
    simp only [List.getElem_cons_zero, List.getElem_cons_succ] at c00 c01
    clear hc bh
    cases hn : numF l 11 4 with
    | none =>
      rw [hn] at G2
      clear hrd GC hn hkb
      go_enter Try.func24, Try.ntmps24
      go_wp2_with fail
      refine G1.mono ?_
      rintro e w1 ⟨rfl, rfl⟩
      go_upto_region 12 with fail
      obtain ⟨w2, hw2⟩ : ∃ w2, w.alloc (.cells #[.bool false, .int .i64 0, .slice none 0 0] 74) = w2 := ⟨_, rfl⟩
      rw [hw2] at b0 hm0 ⊢
      have hR2 : Hid (Mr w2 w.heap.size w.heap.size false 0 (.slice none 0 0) []) := ⟨hm0.out, Oq.nil _ _, Nat.le_refl _⟩
      have hb2 : Hid (Below w.heap.size w w2) := b0.out
      clear hw2 b0 hm0 c00 c01 f01 G1
      have d00 := hR2.out.cells.cell 0 (by simp)
      simp only [List.getElem_cons_zero] at d00
      go_wp2_with fail
      refine (G2.out w2 hb2.out).mono ?_
      rintro e w3 ⟨rfl, rfl⟩
      clear G2
      go_wp2_with fail
      go_ret3
      exact ⟨rfl, hb2.out⟩
    | some N =>
      rw [hn] at G2
      have hl15 : 15 ≤ l.length := by
        cases Nat.lt_or_ge l.length 15 with
        | inl h => rw [numF_none (by omega)] at hn; cases hn
        | inr h => exact h
      dsimp only
      clear hn
      by_cases hN : 4096 < N
      case pos =>
        rw [if_pos (.inl hN)]
        have qN : decide ((N : Int) > 4096) = true := by simp; omega
        clear hrd GC hkb
        go_enter Try.func24, Try.ntmps24
        go_wp2_with fail
        refine G1.mono ?_
        rintro e w1 ⟨rfl, rfl⟩
        go_upto_region 12 with fail
        obtain ⟨w2, hw2⟩ : ∃ w2, w.alloc (.cells #[.bool false, .int .i64 0, .slice none 0 0] 74) = w2 := ⟨_, rfl⟩
        rw [hw2] at b0 hm0 ⊢
        have hR2 : Hid (Mr w2 w.heap.size w.heap.size false 0 (.slice none 0 0) []) := ⟨hm0.out, Oq.nil _ _, Nat.le_refl _⟩
        have hb2 : Hid (Below w.heap.size w w2) := b0.out
        clear hw2 b0 hm0 c00 c01 f01 G1
        have d00 := hR2.out.cells.cell 0 (by simp)
        simp only [List.getElem_cons_zero] at d00
        go_wp2_with fail
        refine (G2.out w2 hb2.out).mono ?_
        rintro e w3 ⟨rfl, rfl⟩
        clear G2
        go_wp2_with fail
        go_ret3
        exact ⟨rfl, hb2.out⟩
      have qN : decide ((N : Int) > 4096) = false := by simp; omega
      by_cases hN0 : N = 0
      case neg =>
        rw [if_pos (.inr ⟨by omega, rfl⟩)]
        have qM : ((N : Int) != 0) = true := by simp; omega
        clear hrd GC hkb
        go_enter Try.func24, Try.ntmps24
        go_wp2_with fail
        refine G1.mono ?_
        rintro e w1 ⟨rfl, rfl⟩
        go_upto_region 12 with fail
        obtain ⟨w2, hw2⟩ : ∃ w2, w.alloc (.cells #[.bool false, .int .i64 0, .slice none 0 0] 74) = w2 := ⟨_, rfl⟩
        rw [hw2] at b0 hm0 ⊢
        have hR2 : Hid (Mr w2 w.heap.size w.heap.size false 0 (.slice none 0 0) []) := ⟨hm0.out, Oq.nil _ _, Nat.le_refl _⟩
        have hb2 : Hid (Below w.heap.size w w2) := b0.out
        clear hw2 b0 hm0 c00 c01 f01 G1
        have d00 := hR2.out.cells.cell 0 (by simp)
        simp only [List.getElem_cons_zero] at d00
        go_wp2_with fail
        refine (G2.out w2 hb2.out).mono ?_
        rintro e w3 ⟨rfl, rfl⟩
        clear G2
        go_wp2_with fail
        go_ret3
        exact ⟨rfl, hb2.out⟩
      rw [if_neg (by omega)]
      have qM : ((N : Int) != 0) = false := by simp; omega
      clear hN0
      have HX : Hid (∃ X, openN l false 0 N 15 [] = X) := ⟨_, rfl⟩
      change Calls _ _ _ _ (fun e w' => ropenP w e w' (openN l false 0 N 15 []))
      obtain ⟨X, hX⟩ := HX.out
      rw [hX]
      have hXh : Hid (openN l false 0 N 15 [] = X) := hX
      clear hX HX
      go_enter Try.func24, Try.ntmps24
      go_wp2_with fail
      refine G1.mono ?_
      rintro e w1 ⟨rfl, rfl⟩
      go_upto_region 12 with fail
      obtain ⟨w2, hw2⟩ : ∃ w2, w.alloc (.cells #[.bool false, .int .i64 0, .slice none 0 0] 74) = w2 := ⟨_, rfl⟩
      rw [hw2] at b0 hm0 ⊢
      have hR2 : Hid (Mr w2 w.heap.size w.heap.size false 0 (.slice none 0 0) []) := ⟨hm0.out, Oq.nil _ _, Nat.le_refl _⟩
      have hb2 : Hid (Below w.heap.size w w2) := b0.out
      clear hw2 b0 hm0 c00 c01 f01 G1
      have d00 := hR2.out.cells.cell 0 (by simp)
      simp only [List.getElem_cons_zero] at d00
      go_wp2_with fail
      refine (G2.out w2 hb2.out).mono ?_
      rintro e w3 ⟨rfl, rfl⟩
      clear G2
      go_wp2_with fail
      go_loopw [9, 10] (fun s9 s wr => ∃ (i at_ : Nat) (acc : List En) (v : Value), s = .int .u64 (i : Int) ∧ s9 = .int .i64 (at_ : Int) ∧ i ≤ N ∧ at_ ≤ l.length ∧ acc.length = i ∧ Hid (AccOk 0 acc) ∧ Mr wr w.heap.size w.heap.size false 0 v acc ∧ Below w.heap.size w wr ∧ Hid (openN l false 0 (N - i) at_ acc = X)) (fun _ s _ => N - (intOf s).toNat)
      case atStart => exact ⟨0, 15, [], _, rfl, rfl, Nat.zero_le _, hl15, rfl, ⟨List.Pairwise.nil, (fun _ h => nomatch h), (fun _ h => nomatch h)⟩, hR2.out, hb2.out, hXh.out⟩
      case round =>
        obtain ⟨i, at_, acc, v, rfl, rfl, hi, hat, hai, hA, hR', hb', hX⟩ := hrel
        obtain ⟨ao, cp, rfl, _⟩ := hR'.mok
        rw [hai] at hR'
        have haih : Hid (acc.length = i) := hai
        have hR : Hid (Mr wr w.heap.size w.heap.size false 0 (.slice ao i cp) acc) := hR'
        have hb : Hid (Below w.heap.size w wr) := hb'
        clear hR' hb' hXh hR2 hb2 hai
        have d1 := hR.out.cells.cell 1 (by simp)
        have d2 := hR.out.cells.cell 2 (by simp)
        simp only [List.getElem_cons_zero, List.getElem_cons_succ] at d1 d2
        by_cases hlt : i < N
        · have E := rentry_any (some ⟨g, off, none⟩) cap l at_ 0 wr (hrd.out.below hb.out (Nat.le_refl _)) (by omega) (by omega) hcap
          have hXs := hX.out
          rw [show N - i = (N - (i + 1)) + 1 by omega] at hXs
          unfold openN namesR at hXs
          cases hnm : nameR l at_ with
          | error k =>
            obtain ⟨hE, hk⟩ := ent_err (clk := 0) hnm
            rw [hE] at E
            rw [hnm] at hXs
            have hXk : Hid (X = .error k) := hXs.symm
            have qt : decide ((k : Int) > (at_ : Int) + 2) = false := by simp; omega
            clear hXs hX hnm hE
            go_upto_region 19 with fail
            go_wp2_with fail
            refine E.mono ?_
            rintro e w4 ⟨rfl, hb4⟩
            have hR4 : Hid (Mr w4 w.heap.size w.heap.size false 0 (.slice ao i cp) acc) := hR.out.below hb4 (Nat.le_refl _)
            have hb4h : Hid (Below w.heap.size w w4) := hb.out.trans (hb4.mono hb.out.size)
            clear hb4 E d1 d2 hR
            go_wp2_with fail
            go_ret3
            rw [hXk.out]
            exact ⟨rfl, hb4h.out.trans ((alloc_below _ _).mono hb4h.out.size)⟩
          | ok nm =>
            obtain ⟨hn1, hn2, hE⟩ := ent_ok (clk := 0) hnm
            rw [hnm] at hXs
            dsimp only at hXs
            clear hnm hX
            obtain ⟨ah, hah⟩ : ∃ ah, lastN acc = ah := ⟨_, rfl⟩
            obtain ⟨B, hB⟩ : ∃ B, at_ + 2 + nm.length = B := ⟨_, rfl⟩
            obtain ⟨T, hT⟩ : ∃ T, B + 8 = T := ⟨_, rfl⟩
            rw [hB, hT] at hXs
            rw [hB, hT] at hE
            have hAs : Hid (∀ e, ¬ (acc ≠ [] ∧ bytesBefore (lastN acc) nm = false) → ¬ e < 0 ∧ e ≤ 9223372036854775807 → AccOk 0 (acc ++ [(nm, e)])) := fun e h1 h2 => accS hA.out h1 hn1 h2
            rw [hah] at hXs hAs
            have hbl : Hid (T ≤ l.length ↔ B + 8 ≤ l.length) := by show _ ↔ _; rw [hT]
            have qt : decide ((T : Int) > (at_ : Int) + 2) = true := by simp; omega
            have hTB : (T : Int) - 8 = (B : Int) := by omega
            clear hn1 hA
            have HOK : Hid (∃ e9 y9, entF l at_ 0 = ((nm, e9), T, y9)) := by
              rw [hE]
              cases numF l B 8
              · exact ⟨_, _, rfl⟩
              · exact ⟨_, _, rfl⟩
            by_cases hbad : acc ≠ [] ∧ bytesBefore ah nm = false
            case pos =>
              rw [if_pos hbad] at hXs
              have hXk : Hid (X = .error (at_ + 2)) := hXs.symm
              have hi0 : 0 < i := by
                have := haih.out
                have h9 := hbad.1
                cases acc with
                | nil => exact absurd rfl h9
                | cons _ _ => simp at this; omega
              obtain ⟨m, hm⟩ : ∃ m, i = m + 1 := ⟨i - 1, by omega⟩
              have him : (i : Int) - 1 = (m : Int) := by omega
              have qS : (Op.bytesLess nm ah = true ∧ (nm == ah) = false) ∨ (Op.bytesLess nm ah = false ∧ (nm == ah) = true) := by
                by_cases he : nm = ah
                · right; rw [he, less_before, bb_irrefl]; simp
                · left; rw [less_before, bb_total hbad.2 (fun e => he e.symm)]; simpa using he
              obtain ⟨e9, y9, hE9⟩ := HOK.out
              rw [hE9] at E
              clear hXs hE hE9 HOK hbad hAs hbl
              go_upto_region 19 with fail
              go_wp2_with fail
              refine E.mono ?_
              rintro e w4 ⟨rfl, hb4⟩
              have hR4 : Hid (Mr w4 w.heap.size w.heap.size false 0 (.slice ao i cp) acc) := hR.out.below hb4 (Nat.le_refl _)
              have hb4h : Hid (Below w.heap.size w w4) := hb.out.trans (hb4.mono hb.out.size)
              clear hb4 E d1 d2 hR
              go_upto_region 20 with fail
              obtain ⟨w5, hw5⟩ : ∃ w5, w4.alloc (.cells #[.string ⟨nm.toArray⟩, .int .i64 e9] 78) = w5 := ⟨_, rfl⟩
              have hx0 : Bl 78 w5 w4.heap.size [.string ⟨nm.toArray⟩, .int .i64 e9] := by rw [← hw5]; exact alloc_bl w4 [.string ⟨nm.toArray⟩, .int .i64 e9] 78
              have hb45 : Below w4.heap.size w4 w5 := hw5 ▸ alloc_below _ _
              obtain ⟨gx, hgx⟩ : ∃ gx, w4.heap.size = gx := ⟨_, rfl⟩
              rw [hgx] at hx0
              rw [hw5, hgx]
              have hR5 : Hid (Mr w5 w.heap.size w.heap.size false 0 (.slice ao i cp) acc) := hR4.out.below hb45 (Nat.le_refl _)
              have hb5 : Hid (Below w.heap.size w w5) := hb4h.out.trans (hb45.mono hb4h.out.size)
              have hgx5 : Hid (w.heap.size ≤ gx) := by rw [← hgx]; exact hb4h.out.size
              have hx5 : Hid (Bl 78 w5 gx [.string ⟨nm.toArray⟩, .int .i64 e9]) := hx0
              clear hw5 hb45 hgx hR4 hb4h
              have xc0 := hx0.cell 0 (by simp)
              have xc1 := hx0.cell 1 (by simp)
              have d2 := hR5.out.cells.cell 2 (by simp)
              simp only [List.getElem_cons_zero, List.getElem_cons_succ] at xc0 xc1 d2
              clear hx0
              obtain ⟨ga, rfl, hrow⟩ := hR5.out.own.cell' haih.out (m := m) (by omega)
              rw [← last_getD (by rw [haih.out]; omega), hah] at hrow
              clear hm
              rcases qS with ⟨qa, qb⟩ | ⟨qa, qb⟩
              all_goals go_wp2_with fail
              all_goals go_quiet (fail)
              all_goals go_wp2_with fail
              all_goals go_ret3
              all_goals rw [hXk.out]
              all_goals exact ⟨rfl, below_drewN hb5.out _⟩
            rw [if_neg hbad] at hXs
            have qS : (i = 0) ∨ (Op.bytesLess nm ah = false ∧ (nm == ah) = false ∧ 0 < i) := by
              by_cases hK0 : i = 0
              · left; omega
              · right
                have hb : bytesBefore ah nm = true := by
                  cases hq : bytesBefore ah nm
                  · refine absurd ⟨fun e => ?_, hq⟩ hbad
                    have := haih.out
                    rw [e] at this
                    exact hK0 this.symm
                  · rfl
                refine ⟨by rw [less_before]; exact bb_asymm hb, by simpa using fun e : nm = ah => bb_ne hb e.symm, by omega⟩
            clear HOK
            cases h8 : numF l B 8 with
            | none =>
              rw [h8] at hXs hE
              have hXk : Hid (X = .error B) := hXs.symm
              dsimp only at hE
              rw [hE] at E
              clear hXs hE h8 hAs hbl hbad
              go_upto_region 19 with fail
              go_wp2_with fail
              refine E.mono ?_
              rintro e w4 ⟨rfl, hb4⟩
              have hR4 : Hid (Mr w4 w.heap.size w.heap.size false 0 (.slice ao i cp) acc) := hR.out.below hb4 (Nat.le_refl _)
              have hb4h : Hid (Below w.heap.size w w4) := hb.out.trans (hb4.mono hb.out.size)
              clear hb4 E d1 d2 hR
              go_upto_region 20 with fail
              obtain ⟨w5, hw5⟩ : ∃ w5, w4.alloc (.cells #[.string ⟨nm.toArray⟩, .int .i64 0] 78) = w5 := ⟨_, rfl⟩
              have hx0 : Bl 78 w5 w4.heap.size [.string ⟨nm.toArray⟩, .int .i64 0] := by rw [← hw5]; exact alloc_bl w4 [.string ⟨nm.toArray⟩, .int .i64 0] 78
              have hb45 : Below w4.heap.size w4 w5 := hw5 ▸ alloc_below _ _
              obtain ⟨gx, hgx⟩ : ∃ gx, w4.heap.size = gx := ⟨_, rfl⟩
              rw [hgx] at hx0
              rw [hw5, hgx]
              have hR5 : Hid (Mr w5 w.heap.size w.heap.size false 0 (.slice ao i cp) acc) := hR4.out.below hb45 (Nat.le_refl _)
              have hb5 : Hid (Below w.heap.size w w5) := hb4h.out.trans (hb45.mono hb4h.out.size)
              have hgx5 : Hid (w.heap.size ≤ gx) := by rw [← hgx]; exact hb4h.out.size
              have hx5 : Hid (Bl 78 w5 gx [.string ⟨nm.toArray⟩, .int .i64 0]) := hx0
              clear hw5 hb45 hgx hR4 hb4h
              have xc0 := hx0.cell 0 (by simp)
              have xc1 := hx0.cell 1 (by simp)
              have d2 := hR5.out.cells.cell 2 (by simp)
              simp only [List.getElem_cons_zero, List.getElem_cons_succ] at xc0 xc1 d2
              clear hx0
              rcases qS with qz | ⟨qa, qb, qc⟩
              · subst qz
                go_wp2_with fail
                go_quiet (fail)
                go_wp2_with fail
                go_ret3
                rw [hXk.out]
                exact ⟨rfl, below_drewN hb5.out _⟩
              · obtain ⟨m, hm⟩ : ∃ m, i = m + 1 := ⟨i - 1, by omega⟩
                have him : (i : Int) - 1 = (m : Int) := by omega
                obtain ⟨ga, rfl, hrow⟩ := hR5.out.own.cell' haih.out (m := m) (by omega)
                rw [← last_getD (by rw [haih.out]; omega), hah] at hrow
                clear hm
                go_wp2_with fail
                go_quiet (fail)
                go_wp2_with fail
                go_ret3
                rw [hXk.out]
                exact ⟨rfl, below_drewN hb5.out _⟩
            | some ev =>
              rw [h8] at hXs hE
              dsimp only at hXs hE
              have hTl : T ≤ l.length := by
                cases Nat.lt_or_ge l.length (B + 8) with
                | inl h => rw [numF_none (by omega)] at h8; cases h8
                | inr h => omega
              have hsb := s64_bounds ev
              obtain ⟨se, hse⟩ : ∃ se, s64 ev = se := ⟨_, rfl⟩
              rw [hse] at hXs hE hsb
              clear h8 hse
              by_cases hlow : se < 0
              case pos =>
                rw [if_pos hlow] at hXs
                have hXk : Hid (X = .error B) := hXs.symm
                rw [hE, show decide (0 ≤ se) = false by simp; omega] at E
                clear hXs hE hAs hbl hbad hlow
                go_upto_region 19 with fail
                go_wp2_with fail
                refine E.mono ?_
                rintro e w4 ⟨rfl, hb4⟩
                have hR4 : Hid (Mr w4 w.heap.size w.heap.size false 0 (.slice ao i cp) acc) := hR.out.below hb4 (Nat.le_refl _)
                have hb4h : Hid (Below w.heap.size w w4) := hb.out.trans (hb4.mono hb.out.size)
                clear hb4 E d1 d2 hR
                go_upto_region 20 with fail
                obtain ⟨w5, hw5⟩ : ∃ w5, w4.alloc (.cells #[.string ⟨nm.toArray⟩, .int .i64 se] 78) = w5 := ⟨_, rfl⟩
                have hx0 : Bl 78 w5 w4.heap.size [.string ⟨nm.toArray⟩, .int .i64 se] := by rw [← hw5]; exact alloc_bl w4 [.string ⟨nm.toArray⟩, .int .i64 se] 78
                have hb45 : Below w4.heap.size w4 w5 := hw5 ▸ alloc_below _ _
                obtain ⟨gx, hgx⟩ : ∃ gx, w4.heap.size = gx := ⟨_, rfl⟩
                rw [hgx] at hx0
                rw [hw5, hgx]
                have hR5 : Hid (Mr w5 w.heap.size w.heap.size false 0 (.slice ao i cp) acc) := hR4.out.below hb45 (Nat.le_refl _)
                have hb5 : Hid (Below w.heap.size w w5) := hb4h.out.trans (hb45.mono hb4h.out.size)
                have hgx5 : Hid (w.heap.size ≤ gx) := by rw [← hgx]; exact hb4h.out.size
                have hx5 : Hid (Bl 78 w5 gx [.string ⟨nm.toArray⟩, .int .i64 se]) := hx0
                clear hw5 hb45 hgx hR4 hb4h
                have xc0 := hx0.cell 0 (by simp)
                have xc1 := hx0.cell 1 (by simp)
                have d2 := hR5.out.cells.cell 2 (by simp)
                simp only [List.getElem_cons_zero, List.getElem_cons_succ] at xc0 xc1 d2
                clear hx0
                rcases qS with qz | ⟨qa, qb, qc⟩
                · subst qz
                  go_wp2_with fail
                  go_quiet (fail)
                  go_wp2_with fail
                  go_ret3
                  rw [hXk.out]
                  exact ⟨rfl, below_drewN hb5.out _⟩
                · obtain ⟨m, hm⟩ : ∃ m, i = m + 1 := ⟨i - 1, by omega⟩
                  have him : (i : Int) - 1 = (m : Int) := by omega
                  obtain ⟨ga, rfl, hrow⟩ := hR5.out.own.cell' haih.out (m := m) (by omega)
                  rw [← last_getD (by rw [haih.out]; omega), hah] at hrow
                  clear hm
                  go_wp2_with fail
                  go_quiet (fail)
                  go_wp2_with fail
                  go_ret3
                  rw [hXk.out]
                  exact ⟨rfl, below_drewN hb5.out _⟩
              rw [if_neg hlow] at hXs
              have hX2 : Hid (openN l false 0 (N - (i + 1)) T (acc ++ [(nm, se)]) = X) := hXs
              have hA2 : Hid (AccOk 0 (acc ++ [(nm, se)])) := hAs.out se hbad ⟨hlow, hsb.2⟩
              rw [hE, show decide (0 ≤ se) = true by simp; omega] at E
              clear hXs hE hAs hbl hbad hlow hsb
              go_upto_region 19 with fail
              go_wp2_with fail
              refine E.mono ?_
              rintro e w4 ⟨rfl, hb4⟩
              have hR4 : Hid (Mr w4 w.heap.size w.heap.size false 0 (.slice ao i cp) acc) := hR.out.below hb4 (Nat.le_refl _)
              have hb4h : Hid (Below w.heap.size w w4) := hb.out.trans (hb4.mono hb.out.size)
              clear hb4 E d1 d2 hR
              go_upto_region 20 with fail
              obtain ⟨w5, hw5⟩ : ∃ w5, w4.alloc (.cells #[.string ⟨nm.toArray⟩, .int .i64 se] 78) = w5 := ⟨_, rfl⟩
              have hx0 : Bl 78 w5 w4.heap.size [.string ⟨nm.toArray⟩, .int .i64 se] := by rw [← hw5]; exact alloc_bl w4 [.string ⟨nm.toArray⟩, .int .i64 se] 78
              have hb45 : Below w4.heap.size w4 w5 := hw5 ▸ alloc_below _ _
              obtain ⟨gx, hgx⟩ : ∃ gx, w4.heap.size = gx := ⟨_, rfl⟩
              rw [hgx] at hx0
              rw [hw5, hgx]
              have hR5 : Hid (Mr w5 w.heap.size w.heap.size false 0 (.slice ao i cp) acc) := hR4.out.below hb45 (Nat.le_refl _)
              have hb5 : Hid (Below w.heap.size w w5) := hb4h.out.trans (hb45.mono hb4h.out.size)
              have hgx5 : Hid (w.heap.size ≤ gx) := by rw [← hgx]; exact hb4h.out.size
              have hx5 : Hid (Bl 78 w5 gx [.string ⟨nm.toArray⟩, .int .i64 se]) := hx0
              clear hw5 hb45 hgx hR4 hb4h
              have xc0 := hx0.cell 0 (by simp)
              have xc1 := hx0.cell 1 (by simp)
              have d2 := hR5.out.cells.cell 2 (by simp)
              simp only [List.getElem_cons_zero, List.getElem_cons_succ] at xc0 xc1 d2
              clear hx0
              rcases qS with qz | ⟨qa, qb, qc⟩
              · subst qz
                go_wp2_with fail
                go_quiet (fail)
                have HSS : Hid (∀ wq, Below w5.heap.size w5 wq → (fun (w' : World) => w'.cell? ⟨w.heap.size, 2, none⟩ = some (.slice ao 0 cp) ∧ w'.cell? ⟨gx, 0, none⟩ = some (.string ⟨nm.toArray⟩) ∧ w'.cell? ⟨gx, 1, none⟩ = some (.int .i64 se)) wq) := fun wq hq => by
                  have h1 := (hR5.out.below hq (Nat.le_refl _)).cells.cell 2 (by simp)
                  have h2 := hx5.out.below hq hx5.out.lt
                  have h3 := h2.cell 0 (by simp)
                  have h4 := h2.cell 1 (by simp)
                  simp only [List.getElem_cons_zero, List.getElem_cons_succ] at h1 h3 h4
                  exact ⟨h1, h3, h4⟩
                go_wp2_with fail
                refine wp_region_K 7 (fun (w' : World) => w'.cell? ⟨w.heap.size, 2, none⟩ = some (.slice ao 0 cp) ∧ w'.cell? ⟨gx, 0, none⟩ = some (.string ⟨nm.toArray⟩) ∧ w'.cell? ⟨gx, 1, none⟩ = some (.int .i64 se)) (by kernel_rfl) ?_
                have hHeld : ((fun (w' : World) => w'.cell? ⟨w.heap.size, 2, none⟩ = some (.slice ao 0 cp) ∧ w'.cell? ⟨gx, 0, none⟩ = some (.string ⟨nm.toArray⟩) ∧ w'.cell? ⟨gx, 1, none⟩ = some (.int .i64 se))) (World.drew (w5.drewN nq)) := HSS.out _ (below_drewN (below_drewN (Below.refl _ _) _) 1)
                refine wpAnyK_take0 0 (v := ?v101) rfl (by kernel_rfl) (fun _ _ _ h => h) (Or.inl ⟨by rfl, ?hy101⟩) (fun _ => hHeld) ?_
                case hy101 => (intro w hSw; go_simp; try with_reducible rfl)
                try simp only [Act.put, List.setIfInBounds_toArray, List.set_cons_zero, List.set_cons_succ]
                refine wpAnyK_take0 1 (v := ?v102) rfl (by kernel_rfl) (fun _ _ _ h => h) (Or.inl ⟨by rfl, ?hy102⟩) (fun _ => hHeld) ?_
                case hy102 => (intro w hSw; go_simp; try with_reducible rfl)
                try simp only [Act.put, List.setIfInBounds_toArray, List.set_cons_zero, List.set_cons_succ]
                refine wpAnyK_take0 2 (v := ?v103) rfl (by kernel_rfl) (fun _ _ _ h => h) (Or.inl ⟨by rfl, ?hy103⟩) (fun _ => hHeld) ?_
                case hy103 => (intro w hSw; go_simp; try with_reducible rfl)
                try simp only [Act.put, List.setIfInBounds_toArray, List.set_cons_zero, List.set_cons_succ]
                refine wpAnyK_take0 3 (v := ?v104) rfl (by kernel_rfl) (fun _ _ _ h => h) (Or.inl ⟨by rfl, ?hy104⟩) (fun _ => hHeld) ?_
                case hy104 => (intro w hSw; go_simp; try with_reducible rfl)
                try simp only [Act.put, List.setIfInBounds_toArray, List.set_cons_zero, List.set_cons_succ]
                refine wpAnyK_take 4 [7] (v := ?v105) rfl (by kernel_rfl) (fun _ _ _ h => h) (Or.inl ⟨by rfl, ?hy105⟩) hHeld ?_
                case hy105 => (intro w hSw; (try dsimp only at hSw); go_simp; try with_reducible rfl)
                try simp only [Act.put, List.setIfInBounds_toArray, List.set_cons_zero, List.set_cons_succ]
                refine wpAnyK_take 5 [6, 7] (v := ?v106) rfl (by kernel_rfl) (fun _ _ _ h => h) (Or.inl ⟨by rfl, ?hy106⟩) hHeld ?_
                case hy106 => (intro w hSw; (try dsimp only at hSw); go_simp; try with_reducible rfl)
                try simp only [Act.put, List.setIfInBounds_toArray, List.set_cons_zero, List.set_cons_succ]
                refine wpAnyK_step 6 rfl (by kernel_rfl) (fun K hK => ?_)
                go_simp
                try dsimp only
                refine hK.out _ _ ?hk107 ?_
                case hk107 => exact fun _ => HSS.out _ ((below_drewN (below_drewN (Below.refl _ _) _) 1).trans ((alloc_below _ _).mono (Nat.le_refl _)))
                clear hK K
                try simp only [Act.put, List.setIfInBounds_toArray, List.set_cons_zero, List.set_cons_succ]
                refine wpAnyK_step 7 rfl (by kernel_rfl) (fun K hK => ?_)
                rw [if_pos (show Region.wanted _ _ = true from rfl)]
                refine wp_append_rq (wr := World.drew (w5.drewN nq)) (.tmp 148) (.tmp 150) rfl w.heap.size _ acc (nm, se) rfl hR5.out.own rfl (by rw [haih.out]; omega) hb5.out.size ?_
                intro v7 w7 h7 hc7
                have hR6 : Mr (World.drew (w5.drewN nq)) w.heap.size w.heap.size false 0 _ acc := (hR5.out.drewN _).drewN 1
                obtain ⟨a7, c7, e7, _⟩ := h7.rd
                obtain ⟨n7, hn7⟩ : ∃ n7, (acc ++ [(nm, se)]).length = n7 := ⟨_, rfl⟩
                rw [hn7] at e7
                have hn7h : Hid ((acc ++ [(nm, se)]).length = n7) := hn7
                clear hn7
                subst e7
                have hg7 : Hid (Mr (w7.setCell ⟨w.heap.size, 2, none⟩ (.slice a7 n7 c7)) w.heap.size w.heap.size false 0 (.slice a7 n7 c7) (acc ++ [(nm, se)]) ∧ Below w.heap.size w (w7.setCell ⟨w.heap.size, 2, none⟩ (.slice a7 n7 c7))) := by
                        have := hR6.grown hb5.out.size hc7 h7
                        exact ⟨this.1, (below_drewN (below_drewN hb5.out _) 1).trans this.2.1⟩
                have hcl7 := hR6.cells.chf hc7 (fun e => hR6.own.nm hR6.cells _ e rfl)
                have s7 := hcl7.cell 2 (by simp)
                have f7 := hcl7.frozen 2
                simp only [List.getElem_cons_zero, List.getElem_cons_succ] at s7
                clear hcl7 h7 hc7 hR6
                try dsimp only
                refine hK.out _ _ ?hk108 ?_
                case hk108 => exact (fun h => nomatch (h.symm.trans (show _ = true by kernel_rfl)))
                clear hK K
                try simp only [Act.put, List.setIfInBounds_toArray, List.set_cons_zero, List.set_cons_succ]
                refine wpAnyK_take0 8 (v := ?v109) rfl (by kernel_rfl) (fun _ _ _ h => h) (Or.inl ⟨by rfl, ?hy109⟩) (fun h => nomatch (h.symm.trans (show _ = true by kernel_rfl))) ?_
                case hy109 => (intro w hSw; go_simp; try with_reducible rfl)
                try simp only [Act.put, List.setIfInBounds_toArray, List.set_cons_zero, List.set_cons_succ]
                refine wpAnyK_take0 9 (v := ?v110) rfl (by kernel_rfl) (fun _ _ _ h => h) (Or.inl ⟨by rfl, ?hy110⟩) (fun h => nomatch (h.symm.trans (show _ = true by kernel_rfl))) ?_
                case hy110 => (intro w hSw; go_simp; try with_reducible rfl)
                try simp only [Act.put, List.setIfInBounds_toArray, List.set_cons_zero, List.set_cons_succ]
                refine wpAnyK_step 10 rfl (by kernel_rfl) (fun K hK => ?_)
                go_simp
                refine hK.out _ _ ?hk111 ?_
                case hk111 => exact (fun h => nomatch (h.symm.trans (show _ = true by kernel_rfl)))
                clear hK K
                try simp only [Act.put, List.setIfInBounds_toArray, List.set_cons_zero, List.set_cons_succ]
                refine wpAnyK_done (by kernel_rfl) ?_ _
                go_wp2_with fail
                go_roundw
                case rel => exact ⟨0 + 1, T, acc ++ [(nm, se)], _, by go_num, rfl, by omega, hTl, by rw [List.length_append, haih.out]; rfl, hA2, hg7.out.1, hg7.out.2, hX2⟩
                case measure => simp [intOf]; omega
              · obtain ⟨m, hm⟩ : ∃ m, i = m + 1 := ⟨i - 1, by omega⟩
                have him : (i : Int) - 1 = (m : Int) := by omega
                obtain ⟨ga, rfl, hrow⟩ := hR5.out.own.cell' haih.out (m := m) (by omega)
                rw [← last_getD (by rw [haih.out]; omega), hah] at hrow
                clear hm
                go_wp2_with fail
                go_quiet (fail)
                have HSS : Hid (∀ wq, Below w5.heap.size w5 wq → (fun (w' : World) => w'.cell? ⟨w.heap.size, 2, none⟩ = some (.slice (some ⟨ga, 0, none⟩) i cp) ∧ w'.cell? ⟨gx, 0, none⟩ = some (.string ⟨nm.toArray⟩) ∧ w'.cell? ⟨gx, 1, none⟩ = some (.int .i64 se)) wq) := fun wq hq => by
                  have h1 := (hR5.out.below hq (Nat.le_refl _)).cells.cell 2 (by simp)
                  have h2 := hx5.out.below hq hx5.out.lt
                  have h3 := h2.cell 0 (by simp)
                  have h4 := h2.cell 1 (by simp)
                  simp only [List.getElem_cons_zero, List.getElem_cons_succ] at h1 h3 h4
                  exact ⟨h1, h3, h4⟩
                go_wp2_with fail
                refine wp_region_K 7 (fun (w' : World) => w'.cell? ⟨w.heap.size, 2, none⟩ = some (.slice (some ⟨ga, 0, none⟩) i cp) ∧ w'.cell? ⟨gx, 0, none⟩ = some (.string ⟨nm.toArray⟩) ∧ w'.cell? ⟨gx, 1, none⟩ = some (.int .i64 se)) (by kernel_rfl) ?_
                have hHeld : ((fun (w' : World) => w'.cell? ⟨w.heap.size, 2, none⟩ = some (.slice (some ⟨ga, 0, none⟩) i cp) ∧ w'.cell? ⟨gx, 0, none⟩ = some (.string ⟨nm.toArray⟩) ∧ w'.cell? ⟨gx, 1, none⟩ = some (.int .i64 se))) (World.drew (w5.drewN nq)) := HSS.out _ (below_drewN (below_drewN (Below.refl _ _) _) 1)
                refine wpAnyK_take0 0 (v := ?v212) rfl (by kernel_rfl) (fun _ _ _ h => h) (Or.inl ⟨by rfl, ?hy212⟩) (fun _ => hHeld) ?_
                case hy212 => (intro w hSw; go_simp; try with_reducible rfl)
                try simp only [Act.put, List.setIfInBounds_toArray, List.set_cons_zero, List.set_cons_succ]
                refine wpAnyK_take0 1 (v := ?v213) rfl (by kernel_rfl) (fun _ _ _ h => h) (Or.inl ⟨by rfl, ?hy213⟩) (fun _ => hHeld) ?_
                case hy213 => (intro w hSw; go_simp; try with_reducible rfl)
                try simp only [Act.put, List.setIfInBounds_toArray, List.set_cons_zero, List.set_cons_succ]
                refine wpAnyK_take0 2 (v := ?v214) rfl (by kernel_rfl) (fun _ _ _ h => h) (Or.inl ⟨by rfl, ?hy214⟩) (fun _ => hHeld) ?_
                case hy214 => (intro w hSw; go_simp; try with_reducible rfl)
                try simp only [Act.put, List.setIfInBounds_toArray, List.set_cons_zero, List.set_cons_succ]
                refine wpAnyK_take0 3 (v := ?v215) rfl (by kernel_rfl) (fun _ _ _ h => h) (Or.inl ⟨by rfl, ?hy215⟩) (fun _ => hHeld) ?_
                case hy215 => (intro w hSw; go_simp; try with_reducible rfl)
                try simp only [Act.put, List.setIfInBounds_toArray, List.set_cons_zero, List.set_cons_succ]
                refine wpAnyK_take 4 [7] (v := ?v216) rfl (by kernel_rfl) (fun _ _ _ h => h) (Or.inl ⟨by rfl, ?hy216⟩) hHeld ?_
                case hy216 => (intro w hSw; (try dsimp only at hSw); go_simp; try with_reducible rfl)
                try simp only [Act.put, List.setIfInBounds_toArray, List.set_cons_zero, List.set_cons_succ]
                refine wpAnyK_take 5 [6, 7] (v := ?v217) rfl (by kernel_rfl) (fun _ _ _ h => h) (Or.inl ⟨by rfl, ?hy217⟩) hHeld ?_
                case hy217 => (intro w hSw; (try dsimp only at hSw); go_simp; try with_reducible rfl)
                try simp only [Act.put, List.setIfInBounds_toArray, List.set_cons_zero, List.set_cons_succ]
                refine wpAnyK_step 6 rfl (by kernel_rfl) (fun K hK => ?_)
                go_simp
                try dsimp only
                refine hK.out _ _ ?hk218 ?_
                case hk218 => exact fun _ => HSS.out _ ((below_drewN (below_drewN (Below.refl _ _) _) 1).trans ((alloc_below _ _).mono (Nat.le_refl _)))
                clear hK K
                try simp only [Act.put, List.setIfInBounds_toArray, List.set_cons_zero, List.set_cons_succ]
                refine wpAnyK_step 7 rfl (by kernel_rfl) (fun K hK => ?_)
                rw [if_pos (show Region.wanted _ _ = true from rfl)]
                refine wp_append_rq (wr := World.drew (w5.drewN nq)) (.tmp 148) (.tmp 150) rfl w.heap.size _ acc (nm, se) rfl hR5.out.own rfl (by rw [haih.out]; omega) hb5.out.size ?_
                intro v7 w7 h7 hc7
                have hR6 : Mr (World.drew (w5.drewN nq)) w.heap.size w.heap.size false 0 _ acc := (hR5.out.drewN _).drewN 1
                obtain ⟨a7, c7, e7, _⟩ := h7.rd
                obtain ⟨n7, hn7⟩ : ∃ n7, (acc ++ [(nm, se)]).length = n7 := ⟨_, rfl⟩
                rw [hn7] at e7
                have hn7h : Hid ((acc ++ [(nm, se)]).length = n7) := hn7
                clear hn7
                subst e7
                have hg7 : Hid (Mr (w7.setCell ⟨w.heap.size, 2, none⟩ (.slice a7 n7 c7)) w.heap.size w.heap.size false 0 (.slice a7 n7 c7) (acc ++ [(nm, se)]) ∧ Below w.heap.size w (w7.setCell ⟨w.heap.size, 2, none⟩ (.slice a7 n7 c7))) := by
                        have := hR6.grown hb5.out.size hc7 h7
                        exact ⟨this.1, (below_drewN (below_drewN hb5.out _) 1).trans this.2.1⟩
                have hcl7 := hR6.cells.chf hc7 (fun e => hR6.own.nm hR6.cells _ e rfl)
                have s7 := hcl7.cell 2 (by simp)
                have f7 := hcl7.frozen 2
                simp only [List.getElem_cons_zero, List.getElem_cons_succ] at s7
                clear hcl7 h7 hc7 hR6
                try dsimp only
                refine hK.out _ _ ?hk219 ?_
                case hk219 => exact (fun h => nomatch (h.symm.trans (show _ = true by kernel_rfl)))
                clear hK K
                try simp only [Act.put, List.setIfInBounds_toArray, List.set_cons_zero, List.set_cons_succ]
                refine wpAnyK_take0 8 (v := ?v220) rfl (by kernel_rfl) (fun _ _ _ h => h) (Or.inl ⟨by rfl, ?hy220⟩) (fun h => nomatch (h.symm.trans (show _ = true by kernel_rfl))) ?_
                case hy220 => (intro w hSw; go_simp; try with_reducible rfl)
                try simp only [Act.put, List.setIfInBounds_toArray, List.set_cons_zero, List.set_cons_succ]
                refine wpAnyK_take0 9 (v := ?v221) rfl (by kernel_rfl) (fun _ _ _ h => h) (Or.inl ⟨by rfl, ?hy221⟩) (fun h => nomatch (h.symm.trans (show _ = true by kernel_rfl))) ?_
                case hy221 => (intro w hSw; go_simp; try with_reducible rfl)
                try simp only [Act.put, List.setIfInBounds_toArray, List.set_cons_zero, List.set_cons_succ]
                refine wpAnyK_step 10 rfl (by kernel_rfl) (fun K hK => ?_)
                go_simp
                refine hK.out _ _ ?hk222 ?_
                case hk222 => exact (fun h => nomatch (h.symm.trans (show _ = true by kernel_rfl)))
                clear hK K
                try simp only [Act.put, List.setIfInBounds_toArray, List.set_cons_zero, List.set_cons_succ]
                refine wpAnyK_done (by kernel_rfl) ?_ _
                go_wp2_with fail
                go_roundw
                case rel => exact ⟨i + 1, T, acc ++ [(nm, se)], _, by go_num, rfl, by omega, hTl, by rw [List.length_append, haih.out]; rfl, hA2, hg7.out.1, hg7.out.2, hX2⟩
                case measure => simp [intOf]; omega
        · obtain rfl : i = N := by omega
          have hXs := hX.out
          rw [Nat.sub_self] at hXs
          unfold openN namesR at hXs
          dsimp only at hXs
          unfold endR at hXs
          have G8 := GC.out wr at_ 8 hb.out (by omega) (by omega)
          clear d1 d2 hX hA
          cases h8 : numF l at_ 8 with
          | none =>
            rw [h8] at hXs G8
            have hXk : Hid (X = .error at_) := hXs.symm
            clear hXs h8
            go_wp2_with fail
            refine G8.mono ?_
            rintro e w4 ⟨rfl, rfl⟩
            go_wp2_with fail
            go_ret3
            rw [hXk.out]
            exact ⟨rfl, hb.out⟩
          | some s =>
            have h88 : at_ + 8 ≤ l.length := by
              cases Nat.lt_or_ge l.length (at_ + 8) with
              | inl h => rw [numF_none (by omega)] at h8; cases h8
              | inr h => omega
            have RS := rsum_any (some ⟨g, off, none⟩) (l.take at_) cap wr ((hrd.out.below hb.out (Nat.le_refl _)).take at_) (by rw [List.length_take]; omega)
            rw [List.length_take, Nat.min_eq_left hat] at RS
            rw [h8] at hXs G8
            dsimp only at hXs
            clear h8
            generalize sumF (l.take at_) = sf at RS hXs
            by_cases hs : s = sf
            · subst hs
              rw [if_neg (by simp)] at hXs
              by_cases hf : at_ + 8 = l.length
              · rw [if_pos hf] at hXs
                have hXk : Hid (X = .ok ⟨false, 0, acc⟩) := hXs.symm
                have ql : decide ((at_ : Int) + 8 < (l.length : Int)) = false := by simp; omega
                clear hXs hf
                go_wp2_with fail
                refine G8.mono ?_
                rintro e w4 ⟨rfl, rfl⟩
                go_wp2_with fail
                refine RS.mono ?_
                rintro e w4 ⟨rfl, rfl⟩
                go_wp2_with fail
                go_ret3
                rw [hXk.out]
                exact ⟨_, rfl, ⟨_, acc, hR.out, .refl _⟩, hb.out⟩
              · rw [if_neg hf] at hXs
                have hXk : Hid (X = .error (at_ + 8)) := hXs.symm
                have ql : decide ((at_ : Int) + 8 < (l.length : Int)) = true := by simp; omega
                clear hXs hf
                go_wp2_with fail
                refine G8.mono ?_
                rintro e w4 ⟨rfl, rfl⟩
                go_wp2_with fail
                refine RS.mono ?_
                rintro e w4 ⟨rfl, rfl⟩
                go_wp2_with fail
                go_ret3
                rw [hXk.out]
                exact ⟨rfl, hb.out⟩
            · rw [if_pos hs] at hXs
              have hXk : Hid (X = .error at_) := hXs.symm
              have qs : ((s : Int) != (sf : Int)) = true := by simp; omega
              clear hXs hs
              go_wp2_with fail
              refine G8.mono ?_
              rintro e w4 ⟨rfl, rfl⟩
              go_wp2_with fail
              refine RS.mono ?_
              rintro e w4 ⟨rfl, rfl⟩
              go_wp2_with fail
              go_ret3
              rw [hXk.out]
              exact ⟨rfl, hb.out⟩

theorem ropen_any (ao : Option Addr) (cap : Nat) (l : List UInt8) (w : World) (hr : Rd w ao l) (hcap : l.length ≤ cap) (hl : l.length ≤ 10000000) :
    Calls Try.prog 24 #[.slice ao l.length cap] w fun e w' => ropenP w e w' (openR l) := by
  by_cases k0 : l.length = 0
  · exact ropen_nil ao cap l w k0
  obtain ⟨g, off, rfl, hg, hc⟩ := hr.cell (by omega)
  by_cases a0 : (l.getD 0 0).toNat = 82
  case neg => exact ropen_m0 g off cap l w hc (by omega) a0
  by_cases k1 : l.length = 1
  · exact ropen_s1 g off cap l w hc k1 a0
  by_cases a1 : (l.getD 1 0).toNat = 1
  case neg => exact ropen_m1 g off cap l w hc (by omega) a0 a1
  by_cases k2 : l.length = 2
  · exact ropen_s2 g off cap l w hc k2 a0 a1
  by_cases a2 : 1 < (l.getD 2 0).toNat
  · exact ropen_m2 g off cap l w hc (by omega) a0 a1 a2
  by_cases a3 : (l.getD 2 0).toNat = 1
  · exact ropen_true g off cap l w hg hc (by omega) hl hcap a0 a1 a3
  · exact ropen_false g off cap l w hg hc (by omega) hl hcap a0 a1 (by omega)

end Go.Proofs.Ytidmjojlhcgedaa
