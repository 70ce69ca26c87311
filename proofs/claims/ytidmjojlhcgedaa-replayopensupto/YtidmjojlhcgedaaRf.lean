import Derived.Test.YtidmjojlhcgedaaRe
import Derived.Test.YtidmjojlhcgedaaShelf
namespace Go.Proofs.Ytidmjojlhcgedaa
open Go.RowKit Go.Maps Go.Shelf
open Go.Proofs (encStr)
set_option maxRecDepth 100000

/-- Two's complement. -/
def u64 (x : Int) : Nat := (x % 18446744073709551616).toNat
theorem u64_lt (x : Int) : u64 x < 18446744073709551616 := by unfold u64; omega
theorem u64_wrap (x : Int) : IntKind.u64.wrap x = ((u64 x : Nat) : Int) := by rw [IntKind.wrap_u64]; unfold u64; omega
theorem u64_nat {n : Nat} (h : n < 18446744073709551616) : IntKind.u64.wrap (n : Int) = (n : Int) := by rw [IntKind.wrap_u64]; omega

def headF (has : Bool) (clk : Int) : List UInt8 := [82, 1] ++ tobe 1 (if has then 1 else 0) ++ tobe 8 (u64 clk)
def nameF (p : En) : List UInt8 := tobe 2 p.1.length ++ p.1 ++ tobe 8 (u64 p.2)
def bodyF (b : Bk) : List UInt8 := headF b.has b.clk ++ tobe 4 b.L.length ++ b.L.flatMap nameF
/-- A book's image. -/
def imgF (b : Bk) : List UInt8 := bodyF b ++ tobe 8 (sumF (bodyF b))

theorem headF_length (h : Bool) (c : Int) : (headF h c).length = 11 := by simp [headF, tobe_length]
theorem nameF_length (p : En) : (nameF p).length = p.1.length + 10 := by simp [nameF, tobe_length]; omega
theorem names_le : ∀ L : List En, (∀ p ∈ L, p.1.length ≤ 1024) → (L.flatMap nameF).length ≤ 1034 * L.length
  | [], _ => by simp
  | p :: r, h => by
    have h1 := names_le r (fun q hq => h q (by simp [hq]))
    have h2 := h p (by simp)
    rw [List.flatMap_cons, List.length_append, nameF_length, List.length_cons]
    omega
theorem names_take {L : List En} (h : ∀ p ∈ L, p.1.length ≤ 1024) (hl : L.length ≤ 4096) (k : Nat) : ((L.take k).flatMap nameF).length ≤ 5000000 := by
  have h1 := names_le (L.take k) (fun p hp => h p (List.mem_of_mem_take hp))
  have h2 : (L.take k).length ≤ L.length := by rw [List.length_take]; omega
  omega
theorem bodyF_length {b : Bk} (h : BkOk b) : (bodyF b).length ≤ 6000000 := by
  have h1 := names_le b.L h.nm
  have h2 := h.len
  simp only [bodyF, List.length_append, headF_length, tobe_length]
  omega
theorem imgF_length {b : Bk} (h : BkOk b) : (imgF b).length ≤ 7000000 := by
  have := bodyF_length h
  simp only [imgF, List.length_append, tobe_length]
  omega

/-- append of a literal's bytes. -/
theorem append_litb {w wr : World} {ops : Array Oper} {rest : List Oper} {o : Oper} {a : Act} {Q : Exit → Act → World → Prop} (hgd : o.guard = none) (s x : Operand)
    (ho : o.op = .call { callee := .builtin .append, args := #[s, x], argTypes := #[30, 30] })
    (B0 : Nat) (v : Value) (xs zs : List UInt8) (hs : a.eval s = v) (hob : OBb B0 w wr v xs) (hx : a.eval x = .slice (some ⟨wr.heap.size, 0, none⟩) zs.length zs.length) (hl : xs.length + zs.length ≤ 1000000000) (hB : B0 ≤ w.heap.size)
    (cs : Array Value) (hcs : cs = (zs.map B).toArray)
    (h : ∀ v' w', OBb B0 w w' v' (xs ++ zs) → wpList Try.prog ops Q rest (a.put o.dst v') w') : wpList Try.prog ops Q (o :: rest) a (wr.alloc (.cells cs 5)) := by
  subst hcs
  have hs2 : B0 ≤ wr.heap.size := Nat.le_trans hB hob.bel.size
  have hbl := alloc_bl wr (zs.map B) 5
  refine append_rdb hgd s x ho B0 v xs hs (hob.own.below (alloc_below wr _) (Nat.le_refl _)) (some ⟨wr.heap.size, 0, none⟩) zs.length zs.length zs hx rfl (fun e => by cases e) hbl.rdb (by omega) (by rw [World.size_alloc]; omega) ?_
  intro v' w' h1 h2
  exact h v' w' ((hob.step (alloc_below wr _) hs2).grown (by rw [World.size_alloc]; omega) h1 h2)

set_option maxHeartbeats 2000000 in
theorem appendHead_any (bb mb : Nat) (b : Bk) (w : World) (h : Bok w bb mb b) :
    Calls Try.prog 33 #[.pointer (some ⟨bb, 0, none⟩), .slice none 0 0] w fun e w' => ∃ v', e = .returned v' ∧ OBb w.heap.size w w' v' (headF b.has b.clk) := by
  have c1 := h.cells.cell 1 (by simp)
  have c2 := h.cells.cell 2 (by simp)
  simp only [List.getElem_cons_zero, List.getElem_cons_succ] at c1 c2
  have hlt := h.lt
  have hcv := u64_wrap b.clk
  have hu := u64_lt b.clk
  have HF : Hid (headF b.has b.clk = ([] ++ [82, 1] ++ tobe 1 (if b.has then 1 else 0)) ++ tobe 8 (u64 b.clk)) := by show _ = _; simp [headF]
  generalize headF b.has b.clk = F at HF ⊢
  generalize hUc : u64 b.clk = U at hcv hu HF
  obtain ⟨bh, bc, bl⟩ := b
  simp only at c1 c2 hcv HF hUc
  clear hUc h
  have step : ∀ (f : Nat) (v1 : Value) (w1 : World), f ≤ 1 → OBb w.heap.size w w1 v1 ([] ++ [82, 1]) → Calls Try.prog 34 #[v1, .int .u64 (f : Int), .int .i64 1] w1 fun e w' => ∃ v', e = .returned v' ∧ OBb w.heap.size w w' v' ([] ++ [82, 1] ++ tobe 1 f) := fun f v1 w1 hf hob =>
    appendNumber_any w.heap.size v1 _ f 1 w w1 hob (Nat.le_refl _) (by simp) (by omega) (by omega)
  have last : ∀ (f : Nat) (v1 : Value) (w1 : World), OBb w.heap.size w w1 v1 ([] ++ [82, 1] ++ tobe 1 f) → Calls Try.prog 34 #[v1, .int .u64 (U : Int), .int .i64 8] w1 fun e w' => ∃ v', e = .returned v' ∧ OBb w.heap.size w w' v' ([] ++ [82, 1] ++ tobe 1 f ++ tobe 8 U) := fun f v1 w1 hob =>
    appendNumber_any w.heap.size v1 _ U 8 w w1 hob (Nat.le_refl _) (by simp [tobe_length]) (by omega) hu
  cases bh
  · go_enter Try.func33, Try.ntmps33
    go_wp2_with (at_builtin; refine append_litb rfl _ _ rfl w.heap.size _ [] [82, 1] rfl (OBb.nil w) rfl (by simp) (Nat.le_refl _) _ rfl ?_; intro v1 w1 hob1)
    refine (step 0 v1 w1 (by omega) hob1).mono ?_
    rintro e w2 ⟨v2, rfl, hob2⟩
    have d1 : w2.cell? ⟨bb, 1, none⟩ = some (.int .i64 bc) := by rw [hob2.bel.cell hlt]; exact c1
    go_wp2_with fail
    refine (last 0 v2 w2 hob2).mono ?_
    rintro e w3 ⟨v3, rfl, hob3⟩
    go_wp2
    go_ret
    exact ⟨_, rfl, by rw [HF.out]; exact hob3⟩
  · go_enter Try.func33, Try.ntmps33
    go_wp2_with (at_builtin; refine append_litb rfl _ _ rfl w.heap.size _ [] [82, 1] rfl (OBb.nil w) rfl (by simp) (Nat.le_refl _) _ rfl ?_; intro v1 w1 hob1)
    refine (step 1 v1 w1 (by omega) hob1).mono ?_
    rintro e w2 ⟨v2, rfl, hob2⟩
    have d1 : w2.cell? ⟨bb, 1, none⟩ = some (.int .i64 bc) := by rw [hob2.bel.cell hlt]; exact c1
    go_wp2_with fail
    refine (last 1 v2 w2 hob2).mono ?_
    rintro e w3 ⟨v3, rfl, hob3⟩
    go_wp2
    go_ret
    exact ⟨_, rfl, by rw [HF.out]; exact hob3⟩

end Go.Proofs.Ytidmjojlhcgedaa
