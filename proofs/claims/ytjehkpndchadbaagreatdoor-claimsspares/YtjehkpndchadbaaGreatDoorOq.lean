import Derived.Test.YtjehkpndchadbaaGreatDoorOl
namespace Go.Proofs.YtjehkpndchadbaaGreatDoor
open Go.RowKit Go.Shelf
set_option maxRecDepth 100000

/-- A region's operations, out of a function's text. -/
def regOf (n : Nat) : Code → Option (Array Oper)
  | .region id ops _ => if id = n then some ops else none
  | .seq a b => match regOf n a with | some x => some x | none => regOf n b
  | .cond _ a b => match regOf n a with | some x => some x | none => regOf n b
  | .block _ b => regOf n b
  | .loop b => regOf n b
  | .scope b => regOf n b
  | _ => none
noncomputable def r45 : Array Oper := (regOf 45 ((Tryz.f3).body.getD .skip)).getD #[]
noncomputable def oq (j : Nat) : Oper := r45.toList.getD j default
theorem r45_size : r45.size = 65 := by kernel_rfl
theorem oq_drop (j : Nat) (h : j < 65) : r45.toList.drop j = oq j :: r45.toList.drop (j + 1) := by
  have hl : j < r45.toList.length := by rw [Array.length_toList, r45_size]; exact h
  rw [List.drop_eq_getElem_cons hl]
  unfold oq
  rw [List.getD_eq_getElem?_getD, List.getElem?_eq_getElem hl]
  rfl

/-- What is known of an activation within the region: its size, its first slots, the slots of F. -/
structure Fs (L : Nat → Option Value) (ds : List Deferred) (F : List (Nat × Value)) (b : Act) : Prop where
  size : b.tmps.size = 297
  low : ∀ n, n < 219 ∨ 283 < n → b.tmps[n]? = L n
  dfs : b.defers = ds
  ev : ∀ n v, F.lookup n = some v → b.tmps[n]? = some v
theorem Fs.put {L : Nat → Option Value} {ds : List Deferred} {F : List (Nat × Value)} {b : Act} (h : Fs L ds F b) (d : Nat) (v : Value) (h1 : 219 ≤ d) (h2 : d < 284) : Fs L ds ((d, v) :: F) (b.put (some d) v) := by
  refine ⟨by simp [Act.put, h.size], fun n hn => ?_, h.dfs, fun n u hu => ?_⟩
  · simp only [Act.put]
    rw [Array.getElem?_setIfInBounds_ne (by omega)]
    exact h.low n hn
  · simp only [Act.put]
    by_cases hnd : n = d
    · subst hnd
      rw [List.lookup_cons_self] at hu
      cases hu
      rw [Array.getElem?_setIfInBounds_self_of_lt (by rw [h.size]; omega)]
    · rw [Array.getElem?_setIfInBounds_ne (Ne.symm hnd)]
      refine h.ev n u ?_
      rw [List.lookup_cons, show (n == d) = false by simpa using hnd] at hu
      exact hu
theorem Fs.tmp {L : Nat → Option Value} {ds : List Deferred} {F : List (Nat × Value)} {b : Act} (h : Fs L ds F b) (n : Nat) (v : Value) (hv : F.lookup n = some v) : b.eval (.tmp n) = v := by
  have := h.ev n v hv
  simp [Act.eval, Array.getD_eq_getD_getElem?, this]
theorem Fs.only {L : Nat → Option Value} {ds : List Deferred} {F : List (Nat × Value)} {b : Act} (h : Fs L ds F b) (d : Nat) (v : Value) (hv : F.lookup d = some v) : Fs L ds [(d, v)] b := by
  refine ⟨h.size, h.low, h.dfs, fun n u hu => ?_⟩
  by_cases hn : n = d
  · subst hn
    rw [List.lookup_cons_self] at hu
    cases hu
    exact h.ev n v hv
  · rw [List.lookup_cons, show (n == d) = false by simpa using hn] at hu
    cases hu
theorem Fs.of {L : Nat → Option Value} {ds : List Deferred} {b : Act} (hs : b.tmps.size = 297) (hl : ∀ n, n < 219 ∨ 283 < n → b.tmps[n]? = L n) (hd : b.defers = ds) (n1 n2 n3 n4 : Nat) (v1 v2 v3 v4 : Value) (h1 : b.tmps[n1]? = some v1) (h2 : b.tmps[n2]? = some v2) (h3 : b.tmps[n3]? = some v3) (h4 : b.tmps[n4]? = some v4) : Fs L ds [(n1, v1), (n2, v2), (n3, v3), (n4, v4)] b := by
  refine ⟨hs, hl, hd, fun n u hu => ?_⟩
  simp only [List.lookup_cons, List.lookup_nil] at hu
  by_cases e1 : n = n1
  · subst e1; simp at hu; subst hu; exact h1
  · rw [show (n == n1) = false by simpa using e1] at hu
    by_cases e2 : n = n2
    · subst e2; simp at hu; subst hu; exact h2
    · rw [show (n == n2) = false by simpa using e2] at hu
      by_cases e3 : n = n3
      · subst e3; simp at hu; subst hu; exact h3
      · rw [show (n == n3) = false by simpa using e3] at hu
        by_cases e4 : n = n4
        · subst e4; simp at hu; subst hu; exact h4
        · rw [show (n == n4) = false by simpa using e4] at hu
          simp at hu
/-- The activation behind the region: the first slots of the one ahead of it, then whatever stands there. -/
theorem Fs.list {l : List Value} {ds : List Deferred} {v : Value} {b : Act} (h : Fs (fun n => l[n]?) ds [(283, v)] b) (hl : l.length = 297) : ∃ r : List Value, r.length = 65 ∧ r[64]? = some v ∧ b = ⟨(l.take 219 ++ (r ++ l.drop 284)).toArray, ds⟩ := by
  have hbl : b.tmps.toList.length = 297 := by rw [Array.length_toList, h.size]
  refine ⟨(b.tmps.toList.drop 219).take 65, by rw [List.length_take, List.length_drop, hbl]; rfl, ?_, ?_⟩
  · rw [List.getElem?_take_of_lt (by decide), List.getElem?_drop, Array.getElem?_toList]
    exact h.ev 283 v rfl
  · have e : b.tmps = (l.take 219 ++ ((b.tmps.toList.drop 219).take 65 ++ l.drop 284)).toArray := by
      apply Array.ext'
      rw [List.toList_toArray]
      have e2 : b.tmps.toList.take 219 = l.take 219 := by
        apply List.ext_getElem?
        intro n
        by_cases hn : n < 219
        · rw [List.getElem?_take_of_lt hn, List.getElem?_take_of_lt hn, Array.getElem?_toList]
          exact h.low n (.inl hn)
        · rw [List.getElem?_eq_none (by rw [List.length_take]; omega), List.getElem?_eq_none (by rw [List.length_take]; omega)]
      have e3 : b.tmps.toList.drop 284 = l.drop 284 := by
        apply List.ext_getElem?
        intro n
        rw [List.getElem?_drop, List.getElem?_drop, Array.getElem?_toList]
        exact h.low (284 + n) (.inr (by omega))
      have e4 : (b.tmps.toList.drop 219).drop 65 = l.drop 284 := by rw [List.drop_drop]; exact e3
      rw [← e2, ← e4, List.take_append_drop, List.take_append_drop]
    obtain ⟨t, d⟩ := b
    have hd := h.dfs
    dsimp only at e hd
    rw [← e, ← hd]
theorem wanted0 {ops : Array Oper} {o : Oper} {t : Array Value} (h : o.guard = none) : Region.wanted o (yielded ops t) = true := by
  unfold Region.wanted
  simp [h]
theorem wanted1 {ops : Array Oper} {o : Oper} {b : Act} {L : Nat → Option Value} {ds : List Deferred} {F : List (Nat × Value)} (hF : Fs L ds F b) (g : Nat) (x : Bool) (d : Nat) (y : Bool) (h : o.guard = some (g, x)) (hd : (ops[g]?).bind (·.dst) = some d) (hv : F.lookup d = some (.bool y)) : Region.wanted o (yielded ops b.tmps) = (y == x) := by
  unfold Region.wanted yielded
  have := hF.ev d _ hv
  simp [h, hd, this]
theorem wantedU {ops : Array Oper} {o : Oper} {b : Act} {L : Nat → Option Value} {ds : List Deferred} {F : List (Nat × Value)} (hF : Fs L ds F b) (g : Nat) (x : Bool) (d : Nat) (h : o.guard = some (g, x)) (hd : (ops[g]?).bind (·.dst) = some d) (hv : F.lookup d = some undef) : Region.wanted o (yielded ops b.tmps) = false := by
  unfold Region.wanted yielded
  have := hF.ev d _ hv
  simp [h, hd, this, undef]

section
variable {f : Operand → Value} {o : Oper} {w : World}
theorem y_move (x : Operand) (v : Value) (ho : o.op = .move x) (h : f x = v) : (execOp f o).run Tryz.prog w = .ok (.value v) w := by
  simp [execOp, ho, h]
theorem y_len (x : Operand) (t : TypeId) (ao : Option Addr) (n c : Nat) (ho : o.op = .call { callee := .builtin .len, args := #[x], argTypes := #[t] }) (h : f x = .slice ao n c) (ht : ∃ e, Tryz.prog.underlying t = some (.slice e)) : (execOp f o).run Tryz.prog w = .ok (.value (.int .i64 (n : Int))) w := by
  obtain ⟨e, he⟩ := ht
  simp [execOp, ho, h, resolve, invoke, builtin, Builtin.len_, run_underlying he]
  rfl
theorem y_lss (x y : Operand) (a b : Int) (r : Bool) (ho : o.op = .binOp .lss 3 x y 3) (h1 : f x = .int .i64 a) (h2 : f y = .int .i64 b) (hr : decide (a < b) = r) : (execOp f o).run Tryz.prog w = .ok (.value (.bool r)) w := by
  subst hr
  unfold execOp
  rw [ho]
  dsimp only
  rw [h1, h2]
  go_simp
theorem y_geq (x y : Operand) (a b : Int) (r : Bool) (ho : o.op = .binOp .geq 3 x y 3) (h1 : f x = .int .i64 a) (h2 : f y = .int .i64 b) (hr : decide (a ≥ b) = r) : (execOp f o).run Tryz.prog w = .ok (.value (.bool r)) w := by
  subst hr
  unfold execOp
  rw [ho]
  dsimp only
  rw [h1, h2]
  go_simp
theorem y_neqs (x y : Operand) (s : ByteArray) (ho : o.op = .binOp .neq 9 x y 9) (h1 : f x = .string s) (h2 : f y = .string s) : (execOp f o).run Tryz.prog w = .ok (.value (.bool false)) w := by
  unfold execOp
  rw [ho]
  dsimp only
  rw [h1, h2]
  go_simp
theorem y_pick (x y z : Operand) (b : Bool) (v : Value) (ho : o.op = .pick x y z) (h1 : f x = .bool b) (h2 : (if b then f y else f z) = v) : (execOp f o).run Tryz.prog w = .ok (.value v) w := by
  unfold execOp
  rw [ho]
  dsimp only
  rw [h1]
  subst h2
  cases b <;> go_simp

theorem y_idxC (x y : Operand) (g c i : Nat) (n : Nat) (ho : o.op = .indexAddr 34 x y) (h1 : f x = .slice (some ⟨g, 0, none⟩) n c) (h2 : f y = .int .i64 (i : Int)) (hi : i < n) : (execOp f o).run Tryz.prog w = .ok (.value (.pointer (some ⟨g, i * 15, none⟩))) w := by
  have hi' : (i : Int) < (n : Int) := by omega
  unfold execOp
  rw [ho]
  dsimp only
  rw [h1, h2]
  go_simp
theorem y_idxT (x y : Operand) (g c i : Nat) (n : Nat) (ho : o.op = .indexAddr 24 x y) (h1 : f x = .slice (some ⟨g, 0, none⟩) n c) (h2 : f y = .int .i64 (i : Int)) (hi : i < n) : (execOp f o).run Tryz.prog w = .ok (.value (.pointer (some ⟨g, i, none⟩))) w := by
  have hi' : (i : Int) < (n : Int) := by omega
  unfold execOp
  rw [ho]
  dsimp only
  rw [h1, h2]
  go_simp
theorem y_idxS (x y : Operand) (g c i : Nat) (n : Nat) (ho : o.op = .indexAddr 39 x y) (h1 : f x = .slice (some ⟨g, 0, none⟩) n c) (h2 : f y = .int .i64 (i : Int)) (hi : i < n) : (execOp f o).run Tryz.prog w = .ok (.value (.pointer (some ⟨g, i, none⟩))) w := by
  have hi' : (i : Int) < (n : Int) := by omega
  unfold execOp
  rw [ho]
  dsimp only
  rw [h1, h2]
  go_simp
theorem y_fld (x : Operand) (g j : Nat) (ho : o.op = .fieldAddr 28 x 5) (h1 : f x = .pointer (some ⟨g, j, none⟩)) : (execOp f o).run Tryz.prog w = .ok (.value (.pointer (some ⟨g, j + 5, none⟩))) w := by
  unfold execOp
  rw [ho]
  dsimp only
  rw [h1]
  go_simp
theorem y_ldT (x : Operand) (p : Addr) (s : ByteArray) (ho : o.op = .load 9 x) (h1 : f x = .pointer (some p)) (hc : w.cell? p = some (.string s)) : (execOp f o).run Tryz.prog w = .ok (.value (.string s)) w := by
  unfold execOp
  rw [ho]
  dsimp only
  rw [h1]
  go_simp
theorem y_ldS (x : Operand) (p : Addr) (ao : Option Addr) (n c : Nat) (ho : o.op = .load 24 x) (h1 : f x = .pointer (some p)) (hc : w.cell? p = some (.slice ao n c)) : (execOp f o).run Tryz.prog w = .ok (.value (.slice ao n c)) w := by
  unfold execOp
  rw [ho]
  dsimp only
  rw [h1]
  go_simp
theorem y_bld (s t : ByteArray) (ho : o.op = .buildSlice 24 2 #[(0, .const (.string s)), (1, .const (.string t))]) (hf : ∀ v, f (.const v) = v) : (execOp f o).run Tryz.prog w = .ok (.value (.slice (some ⟨w.heap.size, 0, none⟩) 2 2)) (w.alloc (.cells #[.string s, .string t] 9)) := by
  unfold execOp
  rw [ho]
  dsimp only
  go_simp
end

end Go.Proofs.YtjehkpndchadbaaGreatDoor
