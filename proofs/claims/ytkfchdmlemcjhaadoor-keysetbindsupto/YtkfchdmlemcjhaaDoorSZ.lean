import Derived.Test.YtkfchdmlemcjhaaDoorRm
import Derived.Laws.StructEq
import Derived.Carry
import Derived.DeepKeys5
namespace Go.Proofs.YtkfchdmlemcjhaaDoor
open Go.RowKit Go.Shelf

/-- A node's cells; a list's. -/
def nC (n : Nd) : List Value := [.int .i64 n.kind, .string ⟨n.key.toArray⟩, .string ⟨n.text.toArray⟩, .bool n.whole, .int .i64 n.int, .int .i64 n.kids]
def nCs (l : List Nd) : List Value := l.flatMap nC
theorem nC_length (n : Nd) : (nC n).length = 6 := rfl
theorem nCs_length (l : List Nd) : (nCs l).length = l.length * 6 := by
  induction l with
  | nil => rfl
  | cons x r ih => unfold nCs at *; simp [List.flatMap_cons, nC, ih]; omega
theorem nCs_append (a b : List Nd) : nCs (a ++ b) = nCs a ++ nCs b := by simp [nCs]
theorem nCs_one (n : Nd) : nCs [n] = nC n := by simp [nCs]
theorem nCs_at (l : List Nd) (i j : Nat) (hi : i < l.length) (hj : j < 6) : (nCs l)[i * 6 + j]? = (nC (l.getD i (nd0 0)))[j]? := by
  induction l generalizing i with
  | nil => simp at hi
  | cons x r ih =>
    cases i with
    | zero =>
      show ((nC x) ++ nCs r)[0 * 6 + j]? = _
      rw [List.getElem?_append_left (by rw [nC_length]; omega)]
      simp
    | succ i =>
      show ((nC x) ++ nCs r)[(i + 1) * 6 + j]? = _
      rw [List.getElem?_append_right (by rw [nC_length]; omega), nC_length, show (i + 1) * 6 + j - 6 = i * 6 + j by omega, ih i (by simpa using hi)]
      simp
/-- The kids' cell of a node set anew. -/
theorem nCs_kids (l : List Nd) (i : Nat) (v : Int) (hi : i < l.length) : (nCs l).set (i * 6 + 5) (.int .i64 v) = nCs (l.modify i fun n => { n with kids := v }) := by
  induction l generalizing i with
  | nil => simp at hi
  | cons x r ih =>
    cases i with
    | zero => rfl
    | succ i =>
      show ((nC x) ++ nCs r).set ((i + 1) * 6 + 5) _ = _
      rw [List.set_append_right _ _ (by rw [nC_length]; omega), nC_length, show (i + 1) * 6 + 5 - 6 = i * 6 + 5 by omega, ih i (by simpa using hi)]
      rfl

theorem own_slice {w : World} {base n size : Nat} {e : TypeId} {v : Value} {xs : List Value} (h : w.ownsRow base e size v n xs) : ∃ a c, v = .slice a n c ∧ n ≤ c ∧ (0 < n → ∃ g, a = some ⟨g, 0, none⟩) := by
  rcases h.2 with ⟨hv, hn⟩ | ⟨g, cap, cur, hv, _, _, hc, _⟩
  · subst hn; exact ⟨none, 0, hv, Nat.le_refl _, fun h => by omega⟩
  · exact ⟨_, cap, hv, hc, fun _ => ⟨g, rfl⟩⟩
theorem own_cell {w : World} {base n size : Nat} {e : TypeId} {g c : Nat} {xs : List Value} (h : w.ownsRow base e size (.slice (some ⟨g, 0, none⟩) n c) n xs) (j : Nat) (u : Value) (hj : xs[j]? = some u) : w.cell? ⟨g, j, none⟩ = some u ∧ w.frozen? ⟨g, j, none⟩ = false := by
  rcases h.2 with ⟨hv, _⟩ | ⟨g', cap, cur, hv, _, hg, hc1, hc2, hs, ht⟩
  · cases hv
  · cases hv
    have hj2 : j < xs.length := (List.getElem?_eq_some_iff.1 hj).1
    refine ⟨?_, by unfold World.frozen?; simp [hg]⟩
    unfold World.cell?
    simp only [hg]
    rw [← ht, List.getElem?_take] at hj
    split at hj
    · simpa using hj
    · cases hj
theorem own_but {w w' : World} {base n size : Nat} {e t : TypeId} {v : Value} {xs vs : List Value} {b : Nat} (h : w.ownsRow base e size v n xs) (h2 : Bl t w b vs) (hne : e ≠ t) (hb : But w w' b) : w'.ownsRow base e size v n xs :=
  own_keep h fun g hg => hb.block g (h.lt g hg).2 fun e => block_apart h h2 hne (by rw [hg, e])
theorem own_short {w : World} {base n : Nat} {e : TypeId} {g c : Nat} {xs : List Value} {y : Value} (h : w.ownsRow base e 1 (.slice (some ⟨g, 0, none⟩) (n + 1) c) (n + 1) (xs ++ [y])) : w.ownsRow base e 1 (.slice (some ⟨g, 0, none⟩) n c) n xs := by
  have hl := h.1
  simp only [List.length_append, List.length_singleton] at hl
  refine ⟨by omega, .inr ?_⟩
  rcases h.2 with ⟨hv, _⟩ | ⟨g', cap, cur, hv, hb, hg, hc1, hc2, hs, ht⟩
  · cases hv
  · cases hv
    refine ⟨g, c, cur, rfl, hb, hg, by omega, hc2, hs, ?_⟩
    have h2 : cur.toList.take (n * 1) = (cur.toList.take ((n + 1) * 1)).take n := by rw [List.take_take]; congr 1; omega
    rw [h2, ht, List.take_append_of_le_length (by omega), List.take_of_length_le (by omega)]

/-- A map of names: how often each one has been met; those of the list once, others never. -/
def kyV (k : Nat × List UInt8) : Value := .agg #[.int .i64 (k.1 : Int), .string ⟨k.2.toArray⟩]
def Mp (w : World) (mb : Nat) (l : List (Nat × List UInt8)) : Prop :=
  ∃ es clk, w.heap[mb]? = some (.map es clk) ∧ es.toList.map (fun e => e.key) = l.map kyV ∧ (∀ e ∈ es.toList, e.val = .int .i64 1) ∧ (∀ e ∈ es.toList, e.born < clk) ∧ (es.toList.map (fun e => e.born)).Pairwise (· ≠ ·)

end Go.Proofs.YtkfchdmlemcjhaaDoor

namespace Go.Proofs.YtkfchdmlemcjhaaDoor
open Go.RowKit Go.Shelf

theorem fields_member : (Tryd.prog.fieldsOf 99).toList = [⟨"object", 3, 0, false, "", "signet/json", 0⟩, ⟨"key", 9, 1, false, "", "signet/json", 8⟩] := by kernel_rfl
theorem part_0 (x y : Value) (w : World) : (part 3 #[x, y] 0).run Tryd.prog w = .ok x w := by kernel_rfl
theorem part_1 (x y : Value) (w : World) : (part 9 #[x, y] 1).run Tryd.prog w = .ok y w := by kernel_rfl

theorem eq_member (a b : Nat) (s u : List UInt8) (w : World) : (Op.equal 99 (kyV (a, s)) (kyV (b, u))).run Tryd.prog w = .ok (decide ((a, s) = (b, u))) w := by
  have ht : Tryd.prog.underlying 99 = some (.struct (Tryd.prog.fieldsOf 99)) := by kernel_rfl
  have hp : Tryd.prog.stoodInHeld 99 = false := by kernel_rfl
  show (Op.equalIn (9999 + 1) 99 (.agg #[.int .i64 (a : Int), .string ⟨s.toArray⟩]) (.agg #[.int .i64 (b : Int), .string ⟨u.toArray⟩])).run Tryd.prog w = _
  rw [run_equalIn_struct w 9999 99 _ _ ht hp, fields_member]
  have hi : Tryd.prog.underlying 3 = some (.int .i64) := by kernel_rfl
  have hs : Tryd.prog.underlying 9 = some .string := by kernel_rfl
  have e1 := run_equalIn_int w 9998 3 .i64 .i64 (a : Int) (b : Int) hi
  have e2 := run_equalIn_string w 9998 9 ⟨s.toArray⟩ ⟨u.toArray⟩ hs
  unfold Op.eqFields
  rw [if_pos (by decide)]
  rw [Sem.run_bind, part_0, Result.andThen_ok, Sem.run_bind, part_0, Result.andThen_ok, Sem.run_bind, e1, Result.andThen_ok]
  by_cases hab : a = b
  · subst hab
    rw [show ((a : Int) == (a : Int)) = true by simp, if_neg (by simp)]
    unfold Op.eqFields
    rw [if_pos (by decide)]
    rw [Sem.run_bind, part_1, Result.andThen_ok, Sem.run_bind, part_1, Result.andThen_ok, Sem.run_bind, e2, Result.andThen_ok]
    by_cases hsu : s = u
    · subst hsu
      rw [show ((⟨s.toArray⟩ : ByteArray).toList == (⟨s.toArray⟩ : ByteArray).toList) = true by simp, if_neg (by simp)]
      unfold Op.eqFields
      simp
    · have : ((⟨s.toArray⟩ : ByteArray).toList == (⟨u.toArray⟩ : ByteArray).toList) = false := by
        rw [ByteArray.toList_eq, ByteArray.toList_eq]
        show (s == u) = false
        simpa using hsu
      rw [this, if_pos (by simp)]
      simp [hsu]
  · rw [show ((a : Int) == (b : Int)) = false by simp; omega, if_pos (by simp)]
    simp [hab]

theorem check_member (em : Bool) (k : Nat × List UInt8) (w : World) : (Instr.checkKey em 10000 99 (kyV k)).run Tryd.prog w = .ok () w := by
  kernel_rfl

/-- Sought for among the entries: the place of the first one of that key. -/
theorem ask_member (k : Nat × List UInt8) (w : World) : ∀ (es : List MapEntry) (l : List (Nat × List UInt8)) (i : Nat), es.map (fun e => e.key) = l.map kyV →
    ((k ∉ l → (Instr.findAsking 99 (kyV k) es i).run Tryd.prog w = .ok none w) ∧
     (∀ l1 l2 e1 e e2, l = l1 ++ k :: l2 → k ∉ l1 → es = e1 ++ e :: e2 → e1.length = l1.length → (Instr.findAsking 99 (kyV k) es i).run Tryd.prog w = .ok (some (i + l1.length, e.val)) w))
  | [], l, i, h => by
    have : l = [] := by simpa using h.symm
    subst this
    refine ⟨fun _ => rfl, fun l1 l2 e1 e e2 hl => ?_⟩
    simp at hl
  | e0 :: es, [], i, h => by simp at h
  | e0 :: es, k0 :: l, i, h => by
    have h1 : e0.key = kyV k0 := by simp at h; exact h.1
    have h2 : es.map (fun e => e.key) = l.map kyV := by simp at h ⊢; exact h.2
    have ih := ask_member k w es l (i + 1) h2
    have hq : (Op.equal 99 (kyV k) e0.key).run Tryd.prog w = .ok (decide (k = k0)) w := by rw [h1]; exact eq_member k.1 k0.1 k.2 k0.2 w
    refine ⟨fun hn => ?_, fun l1 l2 e1 e e2 hl hn he hlen => ?_⟩
    · unfold Instr.findAsking
      rw [Sem.run_bind, hq, Result.andThen_ok, if_neg (by simp at hn ⊢; exact hn.1)]
      exact ih.1 (fun h => hn (List.mem_cons_of_mem _ h))
    · unfold Instr.findAsking
      rw [Sem.run_bind, hq, Result.andThen_ok]
      cases l1 with
      | nil =>
        simp at hl
        have : e1 = [] := List.eq_nil_of_length_eq_zero hlen
        subst this
        simp at he
        rw [if_pos (by simp [hl.1]), he.1]
        rfl
      | cons y l1 =>
        simp at hl hn
        cases e1 with
        | nil => simp at hlen
        | cons z e1 =>
          simp at he hlen
          rw [if_neg (by simp [hl.1]; exact hn.1), ih.2 l1 l2 e1 e e2 hl.2 hn.2 he.2 hlen]
          simp only [List.length_cons]
          rw [show i + 1 + l1.length = i + (l1.length + 1) by omega]

theorem find_member (k : Nat × List UInt8) (w : World) (es : List MapEntry) (l : List (Nat × List UInt8)) (h : es.map (fun e => e.key) = l.map kyV) :
    (k ∉ l → (Instr.findKey 99 (kyV k) es).run Tryd.prog w = .ok none w) ∧
    (∀ l1 l2 e1 e e2, l = l1 ++ k :: l2 → k ∉ l1 → es = e1 ++ e :: e2 → e1.length = l1.length → (Instr.findKey 99 (kyV k) es).run Tryd.prog w = .ok (some (l1.length, e.val)) w) := by
  have ht : Tryd.prog.underlying 99 = some (.struct (Tryd.prog.fieldsOf 99)) := by kernel_rfl
  have A := ask_member k w es l 0 h
  have hf : ∀ (e : MapEntry) r, Instr.findNow (.struct (Tryd.prog.fieldsOf 99)) (kyV k) (e :: r) 0 = none := fun e r => rfl
  unfold Instr.findKey
  rw [Sem.run_bind, run_underlying ht, Result.andThen_ok]
  refine ⟨fun hn => ?_, fun l1 l2 e1 e e2 hl hn he hlen => ?_⟩
  · cases es with
    | nil => rfl
    | cons e r => rw [hf]; exact A.1 hn
  · cases es with
    | nil => simp at he
    | cons e0 r => rw [hf]; have := A.2 l1 l2 e1 e e2 hl hn he hlen; rw [Nat.zero_add] at this; exact this

end Go.Proofs.YtkfchdmlemcjhaaDoor

namespace Go.Proofs.YtkfchdmlemcjhaaDoor
open Go.RowKit Go.Shelf

/-- The world with that map at the block. -/
def mW (w : World) (mb : Nat) (es : Array MapEntry) (clk : Nat) : World := { w with heap := w.heap.setIfInBounds mb (.map es clk) }
theorem mW_at (w : World) (mb : Nat) (es : Array MapEntry) (clk : Nat) (h : mb < w.heap.size) : (mW w mb es clk).heap[mb]? = some (.map es clk) := by
  unfold mW; simp [h]
theorem mW_but (w : World) (mb : Nat) (es : Array MapEntry) (clk : Nat) : But w (mW w mb es clk) mb := by
  refine ⟨rfl, rfl, rfl, by unfold mW; simp, fun k hk hne => ?_⟩
  unfold mW
  simp only
  rw [Array.getElem?_setIfInBounds_ne (fun e => hne e.symm)]
theorem run_getObj' (w : World) (mb : Nat) (es : Array MapEntry) (clk : Nat) (h : w.heap[mb]? = some (.map es clk)) : (getObj mb).run Tryd.prog w = .ok (.map es clk) w := by
  simp only [getObj, Sem.run, h]
theorem run_setObj' (w : World) (mb : Nat) (es0 es : Array MapEntry) (clk0 clk : Nat) (h : w.heap[mb]? = some (.map es0 clk0)) : (setObj mb (.map es clk)).run Tryd.prog w = .ok () (mW w mb es clk) := by
  simp only [setObj, Sem.run, h, mW]
theorem modify_mid {α : Type} (f : α → α) (e : α) (e2 : List α) : ∀ e1 : List α, (e1 ++ e :: e2).modify e1.length f = e1 ++ f e :: e2
  | [] => rfl
  | x :: r => by
    show x :: (r ++ e :: e2).modify r.length f = _
    rw [modify_mid f e e2 r]
    rfl

theorem und_names : Tryd.prog.underlying 68 = some (.map 99 3) := by kernel_rfl
theorem zero_int (w : World) : (zeroValue 3).run Tryd.prog w = .ok (.int .i64 0) w := by kernel_rfl

theorem look_none (w : World) (mb : Nat) (es : Array MapEntry) (clk : Nat) (l : List (Nat × List UInt8)) (k : Nat × List UInt8) (hw : w.heap[mb]? = some (.map es clk)) (hk : es.toList.map (fun e => e.key) = l.map kyV) (hn : k ∉ l) :
    (Instr.lookup 68 (.map (some mb)) (kyV k) false).run Tryd.prog w = .ok (.int .i64 0) w := by
  unfold Instr.lookup
  simp only [Sem.run_bind, run_underlying und_names, Result.andThen_ok, run_getObj' w mb _ _ hw, Sem.run_pure, check_member, (find_member k w es.toList l hk).1 hn, zero_int]
  rfl
theorem look_some (w : World) (mb : Nat) (es : Array MapEntry) (clk : Nat) (l l1 l2 : List (Nat × List UInt8)) (k : Nat × List UInt8) (e1 e2 : List MapEntry) (e : MapEntry) (hw : w.heap[mb]? = some (.map es clk)) (hk : es.toList.map (fun e => e.key) = l.map kyV) (hl : l = l1 ++ k :: l2) (hn : k ∉ l1) (he : es.toList = e1 ++ e :: e2) (hlen : e1.length = l1.length) :
    (Instr.lookup 68 (.map (some mb)) (kyV k) false).run Tryd.prog w = .ok e.val w := by
  unfold Instr.lookup
  simp only [Sem.run_bind, run_underlying und_names, Result.andThen_ok, run_getObj' w mb _ _ hw, Sem.run_pure, check_member, (find_member k w es.toList l hk).2 l1 l2 e1 e e2 hl hn he hlen]
  rfl
theorem entry_none (w : World) (mb : Nat) (es : Array MapEntry) (clk : Nat) (l : List (Nat × List UInt8)) (k : Nat × List UInt8) (hw : w.heap[mb]? = some (.map es clk)) (hk : es.toList.map (fun e => e.key) = l.map kyV) (hn : k ∉ l) :
    (Instr.mapEntry 68 (.map (some mb)) (kyV k)).run Tryd.prog w = .ok (.tuple #[.int .i64 0, .int .i64 (clk : Int)]) (mW w mb (es.push ⟨kyV k, .int .i64 0, clk⟩) (clk + 1)) := by
  unfold Instr.mapEntry
  simp only [Sem.run_bind, run_underlying und_names, Result.andThen_ok, run_getObj' w mb _ _ hw, Sem.run_pure, check_member, (find_member k w es.toList l hk).1 hn, zero_int, run_setObj' w mb _ _ _ _ hw]
  rfl
theorem entry_some (w : World) (mb : Nat) (es : Array MapEntry) (clk : Nat) (l l1 l2 : List (Nat × List UInt8)) (k : Nat × List UInt8) (e1 e2 : List MapEntry) (e : MapEntry) (hw : w.heap[mb]? = some (.map es clk)) (hk : es.toList.map (fun e => e.key) = l.map kyV) (hl : l = l1 ++ k :: l2) (hn : k ∉ l1) (he : es.toList = e1 ++ e :: e2) (hlen : e1.length = l1.length) :
    (Instr.mapEntry 68 (.map (some mb)) (kyV k)).run Tryd.prog w = .ok (.tuple #[e.val, .int .i64 (e.born : Int)]) (mW w mb es clk) := by
  have hat : es[l1.length]? = some e := by rw [← Array.getElem?_toList, he, ← hlen]; simp
  have hek : e.key = kyV k := by
    have : (es.toList.map (fun e => e.key))[l1.length]? = some e.key := by rw [List.getElem?_map, Array.getElem?_toList, hat]; rfl
    rw [hk, hl] at this
    simp at this
    exact this.symm
  have hm : (es.modify l1.length fun e => { e with key := kyV k }) = es := by
    apply Array.ext
    · simp
    · intro i h1 h2
      rw [Array.getElem_modify]
      split
      · rename_i h
        subst h
        have : es[l1.length] = e := by rw [Array.getElem?_eq_getElem h2] at hat; exact Option.some.inj hat
        rw [this, ← hek]
      · rfl
  have hst : (Instr.keyThatStays (kyV k) (kyV k)).run Tryd.prog w = .ok (kyV k) w := by
    unfold Instr.keyThatStays
    rw [if_pos]
    · rfl
    · show (Instr.sameBits 10000 (.agg #[.int .i64 (k.1 : Int), .string ⟨k.2.toArray⟩]) (.agg #[.int .i64 (k.1 : Int), .string ⟨k.2.toArray⟩])) = true
      unfold Instr.sameBits
      simp [Instr.sameBits, beq_toListBytes]
  unfold Instr.mapEntry
  simp only [Sem.run_bind, run_underlying und_names, Result.andThen_ok, run_getObj' w mb _ _ hw, Sem.run_pure, check_member, (find_member k w es.toList l hk).2 l1 l2 e1 e e2 hl hn he hlen]
  rw [hat]
  simp only [Option.map_some, Option.getD_some, hek, hst, Result.andThen_ok, hm, run_setObj' w mb _ _ _ _ hw]
  rfl
theorem store_at (w : World) (mb : Nat) (es : Array MapEntry) (clk : Nat) (st : Nat) (v : Value) (e1 e2 : List MapEntry) (e : MapEntry) (hw : w.heap[mb]? = some (.map es clk)) (he : es.toList = e1 ++ e :: e2) (hb : e.born = st) (hn : ∀ x ∈ e1, x.born ≠ st) :
    (Instr.entryStore 68 (.map (some mb)) (.int .i64 (st : Int)) v).run Tryd.prog w = .ok () (mW w mb (e1 ++ { e with val := v } :: e2).toArray clk) := by
  have hes : es = (e1 ++ e :: e2).toArray := by rw [← he]
  subst hes
  have hf : (e1 ++ e :: e2).toArray.findIdx? (fun x => ((x.born : Int) == (st : Int))) = some e1.length := by
    rw [List.findIdx?_toArray, List.findIdx?_append]
    have h1 : List.findIdx? (fun x => ((x.born : Int) == (st : Int))) e1 = none := by
      rw [List.findIdx?_eq_none_iff]
      intro x hx
      have := hn x hx
      simp; omega
    rw [h1]
    simp [List.findIdx?_cons, hb]
  have hm : ((e1 ++ e :: e2).toArray.modify e1.length fun x => { x with val := v }) = (e1 ++ { e with val := v } :: e2).toArray := by
    apply Array.ext'
    rw [Array.toList_modify]
    exact modify_mid _ e e2 e1
  unfold Instr.entryStore
  simp only [Sem.run_bind, Result.andThen_ok, run_getObj' w mb _ _ hw]
  rw [show (asInt (.int .i64 (st : Int))).run Tryd.prog w = .ok (st : Int) w from rfl, Result.andThen_ok, hf]
  simp only [hm, run_setObj' w mb _ _ _ _ hw]

end Go.Proofs.YtkfchdmlemcjhaaDoor

namespace Go.Proofs.YtkfchdmlemcjhaaDoor
open Go.RowKit Go.Shelf

theorem kyV_eq (o : Nat) (key : List UInt8) : kyV (o, key) = .agg #[.int .i64 (o : Int), .string ⟨key.toArray⟩] := rfl

theorem split_at {k : Nat × List UInt8} : ∀ {l : List (Nat × List UInt8)}, k ∈ l → ∃ l1 l2, l = l1 ++ k :: l2 ∧ k ∉ l1
  | [], h => by simp at h
  | x :: r, h => by
    by_cases hx : x = k
    · exact ⟨[], r, by simp [hx], by simp⟩
    · have : k ∈ r := by
        rcases List.mem_cons.1 h with h | h
        · exact absurd h.symm hx
        · exact h
      obtain ⟨l1, l2, e, hn⟩ := split_at this
      exact ⟨x :: l1, l2, by simp [e], by simp; exact ⟨fun e => hx e.symm, hn⟩⟩
theorem split_en {l1 l2 : List (Nat × List UInt8)} {k : Nat × List UInt8} : ∀ {es : List MapEntry}, es.map (fun e => e.key) = (l1 ++ k :: l2).map kyV → ∃ e1 e e2, es = e1 ++ e :: e2 ∧ e1.length = l1.length := by
  intro es h
  have hl : l1.length < es.length := by
    have := congrArg List.length h
    simp at this
    omega
  exact ⟨es.take l1.length, es[l1.length], es.drop (l1.length + 1), by simp, by simp; omega⟩

set_option maxRecDepth 100000 in
set_option maxHeartbeats 4000000 in
theorem first_new (w : World) (mb o : Nat) (key : List UInt8) (l : List (Nat × List UInt8)) (h : Mp w mb l) (hn : (o, key) ∉ l) :
    Calls Tryd.prog 50 #[.map (some mb), .int .i64 (o : Int), .string ⟨key.toArray⟩] w fun e w' => e = .returned (.bool true) ∧ But w w' mb ∧ Mp w' mb (l ++ [(o, key)]) := by
  obtain ⟨es, clk, hw, hk, hv, hb, hp⟩ := h
  have hlt : mb < w.heap.size := (Array.getElem?_eq_some_iff.1 hw).1
  obtain ⟨es1, hes1⟩ : ∃ es1 : Array MapEntry, es1 = es.push ⟨kyV (o, key), .int .i64 0, clk⟩ := ⟨_, rfl⟩
  have hk1 : es1.toList.map (fun e => e.key) = (l ++ [(o, key)]).map kyV := by rw [hes1]; simp [hk]
  have hs1 : es1.toList = es.toList ++ ⟨kyV (o, key), .int .i64 0, clk⟩ :: [] := by rw [hes1]; simp
  obtain ⟨W, hW⟩ : ∃ W : World, W = w.drew := ⟨_, rfl⟩
  have hwW : W.heap[mb]? = some (.map es clk) := by rw [hW]; exact hw
  have hlW : mb < W.heap.size := by rw [hW]; exact hlt
  obtain ⟨W1, hW1⟩ : ∃ W1 : World, W1 = mW W mb es1 (clk + 1) := ⟨_, rfl⟩
  have hwW1 : W1.heap[mb]? = some (.map es1 (clk + 1)) := by rw [hW1]; exact mW_at W mb _ _ hlW
  obtain ⟨es2, hes2⟩ : ∃ es2 : Array MapEntry, es2 = (es.toList ++ (⟨kyV (o, key), .int .i64 1, clk⟩ : MapEntry) :: []).toArray := ⟨_, rfl⟩
  have hk2 : es2.toList.map (fun e => e.key) = (l ++ [(o, key)]).map kyV := by rw [hes2]; simp [hk]
  have hs2 : es2.toList = es.toList ++ ⟨kyV (o, key), .int .i64 1, clk⟩ :: [] := by rw [hes2]
  obtain ⟨W2, hW2⟩ : ∃ W2 : World, W2 = mW W1 mb es2 (clk + 1) := ⟨_, rfl⟩
  have hlW1 : mb < W1.heap.size := (Array.getElem?_eq_some_iff.1 hwW1).1
  have hwW2 : W2.heap[mb]? = some (.map es2 (clk + 1)) := by rw [hW2]; exact mW_at W1 mb _ _ hlW1
  have hll : es.toList.length = l.length := by have := congrArg List.length hk; simpa using this
  have r1 := look_none W mb es clk l (o, key) hwW hk hn
  have r2 : (Instr.lookup 68 (.map (some mb)) (kyV (o, key)) false).run Tryd.prog W1 = .ok (.int .i64 0) W1 := look_some W1 mb es1 (clk + 1) (l ++ [(o, key)]) l [] (o, key) es.toList [] _ hwW1 hk1 rfl hn hs1 hll
  have r3 : (Instr.mapEntry 68 (.map (some mb)) (kyV (o, key))).run Tryd.prog W = .ok (.tuple #[.int .i64 0, .int .i64 (clk : Int)]) W1 := by rw [hW1, hes1]; exact entry_none W mb es clk l (o, key) hwW hk hn
  have r4 : (Instr.entryStore 68 (.map (some mb)) (.int .i64 (clk : Int)) (.int .i64 1)).run Tryd.prog W1 = .ok () W2 := by
    have := store_at W1 mb es1 (clk + 1) clk (.int .i64 1) es.toList [] _ hwW1 hs1 rfl (fun x hx => by have := hb x hx; omega)
    rw [this, hW2, hes2]
  have r5 : (Instr.lookup 68 (.map (some mb)) (kyV (o, key)) false).run Tryd.prog W2 = .ok (.int .i64 1) W2 := look_some W2 mb es2 (clk + 1) (l ++ [(o, key)]) l [] (o, key) es.toList [] _ hwW2 hk2 rfl hn hs2 hll
  rw [kyV_eq] at r1 r2 r3 r5
  have HB : Hid (But w W2 mb) := by
    have h1 : But w W mb := by rw [hW]; exact (But.refl w mb).drewN 1
    have h2 : But W W1 mb := by rw [hW1]; exact mW_but _ _ _ _
    have h3 : But W1 W2 mb := by rw [hW2]; exact mW_but _ _ _ _
    exact (h1.trans h2).trans h3
  have HM : Hid (Mp W2 mb (l ++ [(o, key)])) := by
    refine ⟨es2, clk + 1, hwW2, hk2, ?_, ?_, ?_⟩
    · intro e he
      rw [hs2] at he
      rcases List.mem_append.1 he with he | he
      · exact hv e he
      · rw [List.mem_singleton.1 he]
    · intro e he
      rw [hs2] at he
      rcases List.mem_append.1 he with he | he
      · have := hb e he; omega
      · rw [List.mem_singleton.1 he]; show clk < clk + 1; omega
    · rw [hs2, List.map_append, List.pairwise_append]
      refine ⟨hp, by simp, ?_⟩
      intro a ha b hb'
      obtain ⟨e, he, rfl⟩ := List.mem_map.1 ha
      simp at hb'
      have := hb e he
      omega
  clear hW1 hW2 hwW hwW1 hwW2 hes1 hes2 hk1 hk2 hs1 hs2 hlW hlW1 hll hw hk hv hb hp hn hlt
  subst hW
  go_enter Tryd.func50, Tryd.ntmps50
  go_wp2
  go_region
  all_goals (go_wp2; go_ret; exact ⟨rfl, HB.out, HM.out⟩)

set_option maxRecDepth 100000 in
set_option maxHeartbeats 4000000 in
theorem first_old (w : World) (mb o : Nat) (key : List UInt8) (l : List (Nat × List UInt8)) (h : Mp w mb l) (hin : (o, key) ∈ l) :
    Calls Tryd.prog 50 #[.map (some mb), .int .i64 (o : Int), .string ⟨key.toArray⟩] w fun e w' => e = .returned (.bool false) ∧ But w w' mb := by
  obtain ⟨es, clk, hw, hk, hv, hb, hp⟩ := h
  have hlt : mb < w.heap.size := (Array.getElem?_eq_some_iff.1 hw).1
  obtain ⟨l1, l2, hl, hn⟩ := split_at hin
  obtain ⟨e1, e, e2, he, hlen⟩ := split_en (hl ▸ hk)
  have hev : e.val = .int .i64 1 := hv e (by rw [he]; simp)
  obtain ⟨W, hW⟩ : ∃ W : World, W = w.drew := ⟨_, rfl⟩
  have hwW : W.heap[mb]? = some (.map es clk) := by rw [hW]; exact hw
  have hlW : mb < W.heap.size := by rw [hW]; exact hlt
  obtain ⟨W1, hW1⟩ : ∃ W1 : World, W1 = mW W mb es clk := ⟨_, rfl⟩
  have hwW1 : W1.heap[mb]? = some (.map es clk) := by rw [hW1]; exact mW_at W mb _ _ hlW
  have hlW1 : mb < W1.heap.size := (Array.getElem?_eq_some_iff.1 hwW1).1
  obtain ⟨es2, hes2⟩ : ∃ es2 : Array MapEntry, es2 = (e1 ++ ({ e with val := .int .i64 2 } : MapEntry) :: e2).toArray := ⟨_, rfl⟩
  have hs2 : es2.toList = e1 ++ ({ e with val := .int .i64 2 } : MapEntry) :: e2 := by rw [hes2]
  have hk2 : es2.toList.map (fun e => e.key) = l.map kyV := by rw [hs2, ← hk, he]; simp
  obtain ⟨W2, hW2⟩ : ∃ W2 : World, W2 = mW W1 mb es2 clk := ⟨_, rfl⟩
  have hwW2 : W2.heap[mb]? = some (.map es2 clk) := by rw [hW2]; exact mW_at W1 mb _ _ hlW1
  have r1 := look_some W mb es clk l l1 l2 (o, key) e1 e2 e hwW hk hl hn he hlen
  have r2 := look_some W1 mb es clk l l1 l2 (o, key) e1 e2 e hwW1 hk hl hn he hlen
  have r3 := entry_some W mb es clk l l1 l2 (o, key) e1 e2 e hwW hk hl hn he hlen
  rw [← hW1] at r3
  have r4 : (Instr.entryStore 68 (.map (some mb)) (.int .i64 (e.born : Int)) (.int .i64 2)).run Tryd.prog W1 = .ok () W2 := by
    have := store_at W1 mb es clk e.born (.int .i64 2) e1 e2 e hwW1 he rfl (fun x hx => by
      rw [he, List.map_append, List.pairwise_append] at hp
      exact hp.2.2 x.born (List.mem_map_of_mem hx) e.born (by simp))
    rw [this, hW2, hes2]
  have r5 : (Instr.lookup 68 (.map (some mb)) (kyV (o, key)) false).run Tryd.prog W2 = .ok (.int .i64 2) W2 := look_some W2 mb es2 clk l l1 l2 (o, key) e1 e2 _ hwW2 hk2 hl hn hs2 hlen
  rw [kyV_eq] at r1 r2 r3 r5
  rw [hev] at r1 r2 r3
  have HB : Hid (But w W2 mb) := by
    have h1 : But w W mb := by rw [hW]; exact (But.refl w mb).drewN 1
    have h2 : But W W1 mb := by rw [hW1]; exact mW_but _ _ _ _
    have h3 : But W1 W2 mb := by rw [hW2]; exact mW_but _ _ _ _
    exact (h1.trans h2).trans h3
  generalize e.born = st at r3 r4
  clear hW1 hW2 hwW hwW1 hwW2 hes2 hk2 hs2 hlW hlW1 hw hk hv hb hp hn hlt hl he hlen hev hin
  subst hW
  go_enter Tryd.func50, Tryd.ntmps50
  go_wp2
  go_region
  all_goals (go_wp2; go_ret; exact ⟨rfl, HB.out⟩)

end Go.Proofs.YtkfchdmlemcjhaaDoor
