import Derived.Test.YtglnhlmacngdpaaDoorYZ
import Derived.Test.YtglnhlmacngdpaaDoorOrk
import Derived.Test.YtglnhlmacngdpaaDoorDZ
import Derived.Laws.AppendOwnNone
import Derived.Test.YtglnhlmacngdpaaDoorGw
import Derived.Test.YtglnhlmacngdpaaDoorGd
namespace Go.Proofs.YtglnhlmacngdpaaDoor
open Go.RowKit

/-- What the document writes of places side by side. -/
def jnF (obj : Bool) (v : List Nd) (f : Nat → List UInt8) : Bool → List Nat → List UInt8
  | _, [] => []
  | first, k :: r => ((if first then [] else [44]) ++ (if obj then quoS (v.getD k (nd0 0)).key ++ [58] else []) ++ f k) ++ jnF obj v f false r
/-- What it writes of a place. -/
def dpF (v : List Nd) : Nat → Nat → List UInt8
  | 0, _ => []
  | f + 1, i =>
    if (v.getD i (nd0 0)).kind = 1 then [110, 117, 108, 108]
    else if (v.getD i (nd0 0)).kind = 2 then [102, 97, 108, 115, 101]
    else if (v.getD i (nd0 0)).kind = 3 then [116, 114, 117, 101]
    else if (v.getD i (nd0 0)).kind = 4 then (v.getD i (nd0 0)).text
    else if (v.getD i (nd0 0)).kind = 5 then quoS (v.getD i (nd0 0)).text
    else if (v.getD i (nd0 0)).kind = 7 then 123 :: (jnF true v (dpF v f) true (kidsF v (i : Int)) ++ [125])
    else 91 :: (jnF false v (dpF v f) true (kidsF v (i : Int)) ++ [93])

theorem jn_snoc (obj : Bool) (v : List Nd) (f : Nat → List UInt8) : ∀ (l : List Nat) (first : Bool) (k : Nat), jnF obj v f first (l ++ [k]) = jnF obj v f first l ++ ((if first = true ∧ l = [] then [] else [44]) ++ (if obj then quoS (v.getD k (nd0 0)).key ++ [58] else []) ++ f k)
  | [], first, k => by cases first <;> simp [jnF]
  | x :: r, first, k => by
    rw [List.cons_append, jnF, jn_snoc obj v f r false k, jnF]
    simp
theorem jn_take (obj : Bool) (v : List Nd) (f : Nat → List UInt8) {L : List Nat} {j : Nat} (hj : j < L.length) : jnF obj v f true (L.take (j + 1)) = jnF obj v f true (L.take j) ++ ((if j = 0 then [] else [44]) ++ (if obj then quoS (v.getD (L.getD j 0) (nd0 0)).key ++ [58] else []) ++ f (L.getD j 0)) := by
  have e : L.take (j + 1) = L.take j ++ [L.getD j 0] := by
    rw [List.take_add_one, List.getElem?_eq_getElem hj]
    simp [List.getD_eq_getElem?_getD, hj]
  rw [e, jn_snoc]
  congr 2
  have : (L.take j = []) ↔ j = 0 := by
    constructor
    · intro h
      have := congrArg List.length h
      rw [List.length_take_of_le (by omega)] at this
      exact this
    · intro h; rw [h]; rfl
  by_cases h0 : j = 0
  · rw [if_pos ⟨rfl, this.2 h0⟩, if_pos h0]
  · rw [if_neg (fun h => h0 (this.1 h.2)), if_neg h0]

/-- The document writes these texts, too. -/
theorem Ts.dp {d : Int} {a : List (List UInt8)} {l : List Nd} {ts : List (List UInt8)} (h : Ts d a l ts) : ∀ (pre post v : List Nd) (f g : Nat) (obj first : Bool), v = pre ++ (l ++ post) → (v.length : Int) ≤ 4611686018427387000 → d + f = 33 → (a ≠ [] → d ≤ 32) → v.length < g + pre.length → jnF obj v (dpF v f) first (kidsL v g pre.length (a.length : Int)) = bodyT obj first a ts ∧ Sq d a l := by
  induction h with
  | nil d =>
    intro pre post v f g obj first hv hl hd hd2 hg
    refine ⟨?_, .nil d⟩
    cases g with
    | zero => rfl
    | succ g =>
      unfold kidsL
      simp only [List.length_nil]
      rw [if_neg (by omega)]
      rfl
  | cons hw h1 hn hk h3 ih1 ih2 =>
    rename_i d n ks ks' t1 t2 r1 r2
    intro pre post v f g obj first hv hl hd hd2 hg
    have hlen : v.length = pre.length + (1 + r1.length + r2.length + post.length) := by rw [hv]; simp; omega
    have hd3 : d ≤ 32 := hd2 (by simp)
    have hgn : v.getD pre.length (nd0 0) = n := by rw [hv]; simp
    obtain ⟨f, rfl⟩ : ∃ f', f = f' + 1 := ⟨f - 1, by omega⟩
    obtain ⟨g, rfl⟩ : ∃ g', g = g' + 1 := ⟨g - 1, by omega⟩
    have hwk := wm_kids2 hw
    have hpl : (pre ++ [n]).length = pre.length + 1 := by simp
    have hq := fun o => ih1 (pre ++ [n]) (r2 ++ post) v f (v.length + 1) o true (by rw [hv]; simp) hl (by omega) (fun hks => by
        have : 0 < n.kids := by
          rw [hn]
          have := List.length_pos_iff.2 hks
          omega
        have := hwk.2.2 this
        omega) (by omega)
    have hs1 : Sq (d + 1) ks r1 := (hq true).2
    have hb : bhN v pre.length = pre.length + (1 + r1.length) := by
      rw [Sq.behind (Sq.one hw hs1 hn hk) (pre := pre) (post := r2 ++ post) (v := v) (by rw [hv]; simp) (by simp only [List.length_cons]; omega)]
      simp only [List.length_cons]
      omega
    have hkd : kidsF v (pre.length : Int) = kidsL v (v.length + 1) (pre.length + 1) n.kids := by
      unfold kidsF
      rw [if_pos ⟨by omega, by omega⟩, Int.toNat_natCast, hgn]
    have hin : ∀ o, jnF o v (dpF v f) true (kidsF v (pre.length : Int)) = bodyT o true ks t1 := fun o => by
      have := (hq o).1
      rw [hpl] at this
      rw [hkd, hn]
      exact this
    have hpr : dpF v (f + 1) pre.length = txN n ks t1 := by
      unfold dpF txN
      simp only [hgn, hin]
      split
      · rfl
      · split
        · rfl
        · split
          · rfl
          · split
            · rfl
            · split
              · rfl
              · by_cases h6 : n.kind = 6
                · rw [if_neg (by omega), if_pos h6]
                · by_cases h7 : n.kind = 7
                  · rw [if_pos h7, if_neg h6, if_pos h7]
                  · omega
    have hpl2 : (pre ++ (n :: r1)).length = pre.length + (1 + r1.length) := by simp; omega
    have h2 := ih2 (pre ++ (n :: r1)) post v (f + 1) g obj false (by rw [hv]; simp) hl hd (fun _ => hd3) (by rw [hpl2]; omega)
    rw [hpl2, ← hb] at h2
    refine ⟨?_, .cons hw hs1 hn hk h2.2⟩
    unfold kidsL
    simp only [List.length_cons]
    rw [if_pos ⟨by omega, by omega⟩, show ((ks'.length + 1 : Nat) : Int) - 1 = (ks'.length : Int) by omega, jnF, hpr, hgn, h2.1]
    simp only [bodyT]
/-- What the document writes of a value is what the program does. -/
theorem dp_eq {v : List Nd} (h : Sq 0 [[]] v) (hl : (v.length : Int) ≤ 4611686018427387000) : dpF v 33 0 = (prF v 33 0).1 := by
  obtain ⟨ts, ht⟩ := h.ts
  have h0 : 0 < v.length := by have := h.len; simp at this; exact this
  obtain ⟨h1, _⟩ := ht.dp [] [] v 33 (v.length + 1) false true (by simp) hl (by omega) (fun _ => by omega) (by simp)
  have h2 := congrArg Prod.fst (ht.pr [] [] v 33 (v.length + 1) false true (by simp) (by omega) (fun _ => by omega) (by simp))
  have h3 : ∀ i, (pkF (prF v 33) v false v.length false 0 i).1 = [] := fun i => by cases v.length <;> (unfold pkF; first | rfl | rw [if_neg (by omega)])
  have h4 : ∀ i, kidsL v v.length i 0 = [] := fun i => by cases v.length <;> (unfold kidsL; first | rfl | rw [if_neg (by omega)])
  have hk : kidsL v (v.length + 1) ([] : List Nd).length (([[]] : List (List UInt8)).length : Int) = [0] := by
    show kidsL v (v.length + 1) 0 1 = [0]
    unfold kidsL
    rw [if_pos ⟨by omega, h0⟩]
    show 0 :: kidsL v v.length (bhN v 0) 0 = [0]
    rw [h4]
  rw [hk] at h1
  simp only [jnF, if_true, List.nil_append, List.append_nil, Bool.false_eq_true, if_false] at h1
  unfold pkF at h2
  simp only [List.length_cons, List.length_nil] at h2
  rw [if_pos (by omega)] at h2
  simp only at h2
  rw [show (((0 + 1 : Nat) : Int) - 1) = 0 by omega, h3] at h2
  rw [h1]
  simpa using h2.symm

end Go.Proofs.YtglnhlmacngdpaaDoor

namespace Go.Proofs.YtglnhlmacngdpaaDoor
open Go.RowKit

theorem escC_len (c : UInt8) : (escC c).length ≤ 6 := by
  unfold escC escV
  split
  · simp
  · split
    · simp
    · split
      · simp
      · simp
theorem quoS_le6 (l : List UInt8) : (quoS l).length ≤ 6 * l.length + 2 := by
  have : ∀ l : List UInt8, (l.flatMap escC).length ≤ 6 * l.length := fun l => by
    induction l with
    | nil => simp
    | cons c r ih =>
      rw [List.flatMap_cons, List.length_append, List.length_cons]
      have := escC_len c
      omega
  have h := this l
  unfold quoS
  rw [List.length_cons, List.length_append, List.length_singleton]
  omega
/-- How much a node may add to the text. -/
def wN (n : Nd) : Nat := 6 * n.text.length + 6 * n.key.length + 12
def sumW : List Nd → Nat
  | [] => 0
  | n :: r => wN n + sumW r
theorem sumW_app : ∀ (a b : List Nd), sumW (a ++ b) = sumW a + sumW b
  | [], b => by simp [sumW]
  | n :: r, b => by rw [List.cons_append, sumW, sumW_app r b, sumW]; omega
theorem txN_len (n : Nd) (ks ts : List (List UInt8)) (B : Nat) (hb : ∀ o, (bodyT o true ks ts).length ≤ B) : (txN n ks ts).length ≤ 6 * n.text.length + 6 + B := by
  have hq := quoS_le6 n.text
  have h1 := hb false
  have h2 := hb true
  unfold txN
  split
  · simp; omega
  · split
    · simp; omega
    · split
      · simp; omega
      · split
        · omega
        · split
          · omega
          · split
            · simp; omega
            · split
              · simp; omega
              · simp
theorem Ts.len {d : Int} {a : List (List UInt8)} {l : List Nd} {ts : List (List UInt8)} (h : Ts d a l ts) : ∀ (obj first : Bool), (bodyT obj first a ts).length ≤ sumW l := by
  induction h with
  | nil d => intro obj first; simp [bodyT]
  | cons hw h1 hn hk h3 ih1 ih2 =>
    rename_i d n ks ks' t1 t2 r1 r2
    intro obj first
    have e1 := txN_len n ks t1 (sumW r1) (fun o => ih1 o true)
    have e2 := ih2 obj false
    have e3 := quoS_le6 n.key
    rw [sumW, sumW_app, wN]
    unfold bodyT
    simp only [List.length_append]
    have e4 : (if first = true then ([] : List UInt8) else [44]).length ≤ 1 := by split <;> simp
    have e5 : (if obj = true then quoS n.key ++ [58] else []).length ≤ 6 * n.key.length + 3 := by
      split
      · simp; omega
      · simp
    omega

/-- A place that can be written at that depth. -/
def Fit (v : List Nd) : Nat → Nat → Prop
  | 0, _ => False
  | f + 1, i => i < v.length ∧ (dpF v (f + 1) i).length ≤ 4000000000000000000 ∧ ∀ k ∈ kidsF v (i : Int), Fit v f k

theorem Ts.sq {d : Int} {a : List (List UInt8)} {l : List Nd} {ts : List (List UInt8)} (h : Ts d a l ts) : Sq d a l := by
  induction h with
  | nil d => exact .nil d
  | cons hw h1 hn hk h3 ih1 ih2 => exact .cons hw ih1 hn hk ih2
theorem Ts.fit {d : Int} {a : List (List UInt8)} {l : List Nd} {ts : List (List UInt8)} (h : Ts d a l ts) : ∀ (pre post v : List Nd) (f g : Nat), v = pre ++ (l ++ post) → (v.length : Int) ≤ 4611686018427387000 → sumW v ≤ 4000000000000000000 → d + f = 33 → (a ≠ [] → d ≤ 32) → v.length < g + pre.length → ∀ k ∈ kidsL v g pre.length (a.length : Int), Fit v f k := by
  induction h with
  | nil d =>
    intro pre post v f g hv hl hW hd hd2 hg k hk
    cases g with
    | zero => simp [kidsL] at hk
    | succ g =>
      unfold kidsL at hk
      simp only [List.length_nil] at hk
      rw [if_neg (by omega)] at hk
      simp at hk
  | cons hw h1 hn hk h3 ih1 ih2 =>
    rename_i d n ks ks' t1 t2 r1 r2
    intro pre post v f g hv hl hW hd hd2 hg k hkk
    have hlen : v.length = pre.length + (1 + r1.length + r2.length + post.length) := by rw [hv]; simp; omega
    have hd3 : d ≤ 32 := hd2 (by simp)
    have hgn : v.getD pre.length (nd0 0) = n := by rw [hv]; simp
    obtain ⟨f, rfl⟩ : ∃ f', f = f' + 1 := ⟨f - 1, by omega⟩
    obtain ⟨g, rfl⟩ : ∃ g', g = g' + 1 := ⟨g - 1, by omega⟩
    have hwk := wm_kids2 hw
    have hpl : (pre ++ [n]).length = pre.length + 1 := by simp
    have hks : ks ≠ [] → d + 1 ≤ 32 := fun hks => by
      have : 0 < n.kids := by
        rw [hn]
        have := List.length_pos_iff.2 hks
        omega
      have := hwk.2.2 this
      omega
    have hq := ih1 (pre ++ [n]) (r2 ++ post) v f (v.length + 1) (by rw [hv]; simp) hl hW (by omega) hks (by omega)
    have hs1 : Sq (d + 1) ks r1 := h1.sq
    have hb : bhN v pre.length = pre.length + (1 + r1.length) := by
      rw [Sq.behind (Sq.one hw hs1 hn hk) (pre := pre) (post := r2 ++ post) (v := v) (by rw [hv]; simp) (by simp only [List.length_cons]; omega)]
      simp only [List.length_cons]
      omega
    have hkd : kidsF v (pre.length : Int) = kidsL v (v.length + 1) (pre.length + 1) n.kids := by
      unfold kidsF
      rw [if_pos ⟨by omega, by omega⟩, Int.toNat_natCast, hgn]
    have hpl2 : (pre ++ (n :: r1)).length = pre.length + (1 + r1.length) := by simp; omega
    unfold kidsL at hkk
    simp only [List.length_cons] at hkk
    rw [if_pos ⟨by omega, by omega⟩, show ((ks'.length + 1 : Nat) : Int) - 1 = (ks'.length : Int) by omega] at hkk
    rcases List.mem_cons.1 hkk with rfl | hk2
    · have hone : Ts d [n.key] (n :: r1) [txN n ks t1] := by
        have := Ts.cons hw h1 hn hk (Ts.nil d)
        rwa [List.append_nil] at this
      obtain ⟨e1, _⟩ := hone.dp pre (r2 ++ post) v (f + 1) (v.length + 1) false true (by rw [hv]; simp) hl hd (fun _ => hd3) (by omega)
      have e2 := hone.len false true
      have e3 : sumW v = sumW pre + (sumW (n :: r1) + (sumW r2 + sumW post)) := by rw [hv, sumW_app, sumW_app, sumW, sumW_app, sumW]; omega
      unfold kidsL at e1
      simp only [List.length_cons, List.length_nil] at e1
      rw [if_pos ⟨by omega, by omega⟩, jnF] at e1
      have e4 : (dpF v (f + 1) pre.length).length ≤ (bodyT false true [n.key] [txN n ks t1]).length := by
        rw [← e1]
        simp only [List.length_append]
        omega
      refine ⟨by omega, by omega, fun k hk => hq k ?_⟩
      rw [hkd, hn] at hk
      rw [hpl]
      exact hk
    · have h2 := ih2 (pre ++ (n :: r1)) post v (f + 1) g (by rw [hv]; simp) hl hW hd (fun _ => hd3) (by rw [hpl2]; omega)
      rw [hpl2, ← hb] at h2
      exact h2 k hk2
theorem fit_of {v : List Nd} (h : Sq 0 [[]] v) (hl : (v.length : Int) ≤ 4611686018427387000) (hW : sumW v ≤ 4000000000000000000) : Fit v 33 0 := by
  obtain ⟨ts, ht⟩ := h.ts
  have h0 : 0 < v.length := by have := h.len; simp at this; exact this
  refine ht.fit [] [] v 33 (v.length + 1) (by simp) hl hW (by omega) (fun _ => by omega) (by simp) 0 ?_
  unfold kidsL
  simp only [List.length_cons, List.length_nil]
  rw [if_pos ⟨by omega, h0⟩]
  simp
theorem jn_le (obj : Bool) (v : List Nd) (f : Nat → List UInt8) : ∀ (l m : List Nat) (first : Bool), (jnF obj v f first l).length ≤ (jnF obj v f first (l ++ m)).length
  | [], m, first => by simp [jnF]
  | x :: r, m, first => by
    have := jn_le obj v f r m false
    rw [List.cons_append, jnF, jnF]
    simp only [List.length_append] at this ⊢
    omega
theorem jn_take_le (obj : Bool) (v : List Nd) (f : Nat → List UInt8) (first : Bool) (L : List Nat) (j : Nat) : (jnF obj v f first (L.take j)).length ≤ (jnF obj v f first L).length := by
  have := jn_le obj v f (L.take j) (L.drop j) first
  rwa [List.take_append_drop] at this

end Go.Proofs.YtglnhlmacngdpaaDoor

namespace Go.Proofs.YtglnhlmacngdpaaDoor
open Go.RowKit Go.Shelf

theorem infoB : (Tryd.prog.info? 5).map (fun i => (i.zero, i.size, i.bytes)) = some (some (.int .u8 0), 1, 1) := by kernel_rfl
theorem oneB (l : List UInt8) : ∀ v ∈ l.map B, v.oneCell' = true := by
  intro v hv
  obtain ⟨c, _, rfl⟩ := List.mem_map.1 hv
  rfl
/-- A row of bytes of one's own. -/
def Owb (w : World) (base : Nat) (v : Value) (l : List UInt8) : Prop := w.ownsRow base 5 1 v l.length (l.map B)
theorem Owb.nil (w : World) (base : Nat) : Owb w base (.slice none 0 0) [] := ⟨rfl, .inl ⟨rfl, rfl⟩⟩
theorem Owb.below {w w' : World} {base n : Nat} {v : Value} {xs : List UInt8} (h : Owb w base v xs) (hb : Below n w w') (hn : w.heap.size ≤ n) : Owb w' base v xs := by
  rcases h.2 with h0 | ⟨g, cap, cur, e, hg, hh, r⟩
  · exact ⟨h.1, .inl h0⟩
  · exact ⟨h.1, .inr ⟨g, cap, cur, e, hg, by rw [hb.block g (Nat.lt_of_lt_of_le (Array.getElem?_eq_some_iff.1 hh).1 hn)]; exact hh, r⟩⟩
theorem Owb.drewN {w : World} {base : Nat} {v : Value} {xs : List UInt8} (h : Owb w base v xs) (q : Nat) : Owb (w.drewN q) base v xs := h
theorem Owb.base {w : World} {base base' : Nat} {v : Value} {xs : List UInt8} (h : Owb w base v xs) (hb : base' ≤ base) : Owb w base' v xs := by
  rcases h.2 with h0 | ⟨g, cap, cur, e, hg, r⟩
  · exact ⟨h.1, .inl h0⟩
  · exact ⟨h.1, .inr ⟨g, cap, cur, e, Nat.le_trans hb hg, r⟩⟩
/-- A value that is bytes. -/
def Nb (w : World) (v : Value) (l : List UInt8) : Prop := ∃ (ao : Option Addr) (c : Nat), v = .slice ao l.length c ∧ l.length ≤ c ∧ Rd w ao l
theorem Nb.below {w w' : World} {v : Value} {xs : List UInt8} {n : Nat} (h : Nb w v xs) (hb : Below n w w') (hn : w.heap.size ≤ n) : Nb w' v xs := by
  obtain ⟨ao, c, e, hc, hr⟩ := h
  exact ⟨ao, c, e, hc, hr.below hb hn⟩
theorem Nb.drewN {w : World} {v : Value} {xs : List UInt8} (h : Nb w v xs) (q : Nat) : Nb (w.drewN q) v xs := h
theorem Owb.nb {w : World} {base : Nat} {v : Value} {xs : List UInt8} (h : Owb w base v xs) : Nb w v xs := by
  rcases h.2 with ⟨rfl, h0⟩ | ⟨g, cap, cur, rfl, hg, hh, hn, hc, hsz, ht⟩
  · have : xs = [] := List.eq_nil_of_length_eq_zero h0
    subst this
    exact ⟨none, 0, rfl, Nat.le_refl _, .inl rfl⟩
  · refine ⟨_, cap, rfl, hn, .inr ⟨g, 0, rfl, (World.ownsRow.lt h g rfl).2, fun j hj => ?_⟩⟩
    rw [Nat.zero_add, World.ownsRow.cellAt h j (by omega)]
    rw [List.getElem?_map, List.getElem?_eq_getElem hj, List.getD_eq_getElem?_getD, List.getElem?_eq_getElem hj]; rfl
/-- A row of bytes of one's own, made since a world. -/
structure OBb (B0 : Nat) (w ws : World) (v : Value) (xs : List UInt8) : Prop where
  own : Owb ws B0 v xs
  bel : Below B0 w ws
theorem OBb.nil (w : World) : OBb w.heap.size w w (.slice none 0 0) [] := ⟨Owb.nil _ _, Below.refl _ _⟩
theorem Bl.rdb {t : TypeId} {w : World} {b : Nat} {xs : List UInt8} (h : Bl t w b (xs.map B)) : Rd w (some ⟨b, 0, none⟩) xs := by
  refine .inr ⟨b, 0, rfl, h.lt, fun j hj => ?_⟩
  rw [Nat.zero_add, h.cell j (by simpa using hj), List.getElem_map, List.getD_eq_getElem?_getD, List.getElem?_eq_getElem hj]; rfl
/-- append of bytes that can be read, nil ones too, behind a row of one's own. -/
theorem append_rdb {w : World} {ops : Array Oper} {rest : List Oper} {o : Oper} {a : Act} {Q : Exit → Act → World → Prop} (hgd : o.guard = none) (s x : Operand)
    (ho : o.op = .call { callee := .builtin .append, args := #[s, x], argTypes := #[48, 48] })
    (base : Nat) (v : Value) (xs : List UInt8) (hs : a.eval s = v) (hown : Owb w base v xs)
    (ao : Option Addr) (m c : Nat) (l : List UInt8) (hx : a.eval x = .slice ao m c) (hl : l.length = m) (hao : ao = none → m = 0 ∧ c = 0) (hrd : Rd w ao l)
    (hbytes : xs.length + m ≤ 10000000000) (hbase : base ≤ w.heap.size)
    (h : ∀ v' w', Owb w' base v' (xs ++ l) → w.grownBy w' v.ownBlock → wpList Tryd.prog ops Q rest (a.put o.dst v') w') : wpList Tryd.prog ops Q (o :: rest) a w := by
  obtain ⟨i, hi, hz, hsize, hby⟩ := info_parts infoB
  cases ao with
  | none =>
    obtain ⟨rfl, rfl⟩ := hao rfl
    obtain rfl := List.eq_nil_of_length_eq_zero hl
    refine wpList_append_own_none hgd s x 48 ho base 5 i 1 Tryd.underlying48 hi v xs.length (xs.map B) hs hown hx ?_
    exact h v w (by rw [List.append_nil]; exact hown) (World.grownBy.refl _ _)
  | some ad =>
    refine wpList_append_own_wide w hgd s x 48 ho base 5 i (.int .u8 0) 1 1 Tryd.underlying48 hi hz hsize hby rfl (by decide) v xs.length (xs.map B) hs hown ad m c (l.map B) hx (by simpa using hl) ?_ (oneB l) (by unfold maxLen; omega) (by omega) hbase ?_
    · intro j u hu
      rcases hrd with h0 | ⟨b, off, e, hb, hc⟩
      · subst h0; simp at hu
      · cases e
        have hj : j < l.length := by
          have := (List.getElem?_eq_some_iff.1 hu).1
          simpa using this
        rw [Addr.add_lit, hc j hj]
        simp [List.getElem?_map, List.getElem?_eq_getElem hj] at hu
        rw [← hu, List.getD_eq_getElem?_getD, List.getElem?_eq_getElem hj, Option.getD_some]
    · intro v' w' h1 h2 _
      refine h v' w' ?_ h2
      unfold Owb
      rw [List.map_append, List.length_append, hl]
      exact h1
/-- append of bytes just made. -/
theorem append_litb {w wr : World} {ops : Array Oper} {rest : List Oper} {o : Oper} {a : Act} {Q : Exit → Act → World → Prop} (hgd : o.guard = none) (s x : Operand)
    (ho : o.op = .call { callee := .builtin .append, args := #[s, x], argTypes := #[48, 48] })
    (B0 : Nat) (v : Value) (xs zs : List UInt8) (m : Nat) (ca : Array Value) (hca : ca = (zs.map B).toArray) (hm : zs.length = m) (hs : a.eval s = v) (hob : OBb B0 w wr v xs) (hx : a.eval x = .slice (some ⟨wr.heap.size, 0, none⟩) m m) (hl : xs.length + m ≤ 10000000000) (hB : B0 ≤ w.heap.size)
    (h : ∀ v' w', OBb B0 w w' v' (xs ++ zs) → wpList Tryd.prog ops Q rest (a.put o.dst v') w') : wpList Tryd.prog ops Q (o :: rest) a (wr.alloc (.cells ca 5)) := by
  subst hca
  have hs2 : B0 ≤ wr.heap.size := Nat.le_trans hB hob.bel.size
  have hbl := alloc_bl wr (zs.map B) 5
  refine append_rdb hgd s x ho B0 v xs hs (hob.own.below (alloc_below wr _) (Nat.le_refl _)) (some ⟨wr.heap.size, 0, none⟩) m m zs hx hm (fun e => by cases e) hbl.rdb (by omega) (by rw [World.size_alloc]; omega) ?_
  intro v' w' h1 h2
  exact h v' w' ⟨h1, hob.bel.trans ((((alloc_below wr _).mono hs2)).grown h2 (by rw [World.size_alloc]; omega) (own_block hob.own))⟩

theorem alloc_below_drew2 (w : World) (o : Obj) : Below w.heap.size w (w.drew.alloc o) := ⟨rfl, rfl, rfl, by rw [alloc_size]; exact Nat.le_succ _, fun k hk => (alloc_below w.drew o).block k hk⟩
theorem esc_hex2 (c : UInt8) (h1 : c ∉ escB) (h2 : c.toNat < 32) : escC c = [92, 117, 48, 48, ([48, 49, 50, 51, 52, 53, 54, 55, 56, 57, 97, 98, 99, 100, 101, 102] : List UInt8).getD (c.toNat / 16) 0, ([48, 49, 50, 51, 52, 53, 54, 55, 56, 57, 97, 98, 99, 100, 101, 102] : List UInt8).getD (c.toNat % 16) 0] := by
  have h : escV c = [92, 117, 48, 48, ([48, 49, 50, 51, 52, 53, 54, 55, 56, 57, 97, 98, 99, 100, 101, 102] : List UInt8).getD (c.toNat / 16) 0, ([48, 49, 50, 51, 52, 53, 54, 55, 56, 57, 97, 98, 99, 100, 101, 102] : List UInt8).getD (c.toNat % 16) 0] := by
    unfold escV
    rw [ix_out h1, if_neg (by decide), if_pos h2]
  unfold escC
  rw [h, if_neg (by simp)]
theorem esc_none2 (c : UInt8) (h1 : c ∉ escB) (h2 : ¬ c.toNat < 32) : escC c = [c] := by
  unfold escC
  rw [(esc_none c (by rw [ix_out h1]; decide) h2).1, if_pos rfl]
theorem quo_take {s : List UInt8} {k : Nat} (h : k < s.length) : 34 :: (s.take (k + 1)).flatMap escC = (34 :: (s.take k).flatMap escC) ++ escC s[k] := by
  rw [List.take_succ_eq_append_getElem h, List.flatMap_append, List.flatMap_singleton, List.cons_append]
theorem quo_lenk {s : List UInt8} {k : Nat} (h : k ≤ s.length) : (34 :: (s.take k).flatMap escC).length ≤ 6 * k + 2 := by
  have := quoS_le6 (s.take k)
  unfold quoS at this
  rw [List.length_cons, List.length_append, List.length_take_of_le h, List.length_singleton] at this
  rw [List.length_cons]
  omega

set_option maxRecDepth 100000 in
set_option maxHeartbeats 16000000 in
/-- The document's Quoted. -/
theorem rquoS_any (s : List UInt8) (w : World) (hs : s.length ≤ 1000000000) :
    Calls Tryd.prog 25 #[.string ⟨s.toArray⟩] w fun e w' => e = .returned (.string ⟨(quoS s).toArray⟩) ∧ Below w.heap.size w w' := by
  have HT : Hid (∀ k (h : k < s.length), 34 :: (s.take (k + 1)).flatMap escC = (34 :: (s.take k).flatMap escC) ++ escC s[k]) := fun k h => quo_take h
  have HL : Hid (∀ k, k ≤ s.length → (34 :: (s.take k).flatMap escC).length ≤ 6 * k + 2) := fun k h => quo_lenk h
  have HQ : Hid (quoS s = (34 :: (s.take s.length).flatMap escC) ++ [34]) := by show _ = _; rw [List.take_of_length_le (Nat.le_refl _)]; rfl
  have HO0 : Hid (OBb w.heap.size w (w.alloc (.cells #[.int .u8 34] 5)) (.slice (some ⟨w.heap.size, 0, none⟩) 1 1) [34]) := ⟨World.ownsRow_lit w #[.int .u8 34] 1 (Nat.le_refl _) (by decide) rfl, alloc_below _ _⟩
  go_enter Tryd.func25, Tryd.ntmps25
  go_wp2
  go_loopw [5, 4] (fun s5 s4 wr => ∃ k : Nat, s5 = .int .i64 (k : Int) ∧ k ≤ s.length ∧ Hid (OBb w.heap.size w wr s4 (34 :: (s.take k).flatMap escC))) (fun x _ _ => s.length - (intOf x).toNat)
  case atStart => exact ⟨0, rfl, by omega, by simpa using HO0⟩
  case round =>
    obtain ⟨k, rfl, hk, HO⟩ := hrel
    have hln := HL.out k hk
    obtain ⟨va, vc, ev, _, _⟩ := own_slice HO.out.own
    clear HO0
    by_cases hlt : k < s.length
    · have d1 : decide ((k : Int) < (s.length : Int)) = true := decide_eq_true (by omega)
      have HTk := HT.out k hlt
      obtain ⟨x, Hx⟩ : ∃ x, Hid (s[k] = x) := ⟨s[k], rfl⟩
      have gx : (⟨s.toArray⟩ : ByteArray)[k]'(by show k < s.toArray.size; simpa using hlt) = x := by rw [← Hx.out]; simp [ByteArray.getElem_eq_getElem_data]
      rw [Hx.out] at HTk
      generalize 34 :: (s.take k).flatMap escC = L at HO HTk hln ev
      subst ev
      have HTk2 : Hid (34 :: (s.take (k + 1)).flatMap escC = L ++ escC x) := HTk
      have hw : wrap64 (x.toNat : Int) = (x.toNat : Int) := wrap_small (by omega) (by have := x.toNat_lt; omega)
      clear HTk Hx HL
      by_cases hx34 : x = 34
      · subst hx34
        have HE : Hid (escC 34 = [92, 34]) := by show _ = _; decide +kernel
        go_wp2_with (at_builtin; refine append_litb (wr := wr) rfl (.tmp 31) (.tmp 35) rfl w.heap.size (.slice va L.length vc) L [92, 34] 2 #[.int .u8 92, .int .u8 34] rfl rfl rfl HO.out rfl (by omega) (Nat.le_refl _) ?_; intro v7 w7 h7; have HO7 : Hid (OBb w.heap.size w w7 v7 (34 :: (s.take (k + 1)).flatMap escC)) := (by rw [HTk2.out, HE.out]; exact h7); clear h7 HO HTk2 HE)
        go_roundw
        case rel => exact ⟨k + 1, by go_num, by omega, HO7⟩
        case measure => simp [intOf]; omega
      have b34 : ((x.toNat : Int) == 34) = false := by
        rw [beq_eq_false_iff_ne]
        intro e
        exact hx34 (UInt8.toNat_inj.1 (by have : (34 : UInt8).toNat = 34 := rfl; omega))
      by_cases hx92 : x = 92
      · subst hx92
        have HE : Hid (escC 92 = [92, 92]) := by show _ = _; decide +kernel
        go_wp2_with (at_builtin; refine append_litb (wr := wr) rfl (.tmp 31) (.tmp 35) rfl w.heap.size (.slice va L.length vc) L [92, 92] 2 #[.int .u8 92, .int .u8 92] rfl rfl rfl HO.out rfl (by omega) (Nat.le_refl _) ?_; intro v7 w7 h7; have HO7 : Hid (OBb w.heap.size w w7 v7 (34 :: (s.take (k + 1)).flatMap escC)) := (by rw [HTk2.out, HE.out]; exact h7); clear h7 HO HTk2 HE)
        go_roundw
        case rel => exact ⟨k + 1, by go_num, by omega, HO7⟩
        case measure => simp [intOf]; omega
      have b92 : ((x.toNat : Int) == 92) = false := by
        rw [beq_eq_false_iff_ne]
        intro e
        exact hx92 (UInt8.toNat_inj.1 (by have : (92 : UInt8).toNat = 92 := rfl; omega))
      by_cases hx8 : x = 8
      · subst hx8
        have HE : Hid (escC 8 = [92, 98]) := by show _ = _; decide +kernel
        go_wp2_with (at_builtin; refine append_litb (wr := wr) rfl (.tmp 40) (.tmp 41) rfl w.heap.size (.slice va L.length vc) L [92, 98] 2 #[.int .u8 92, .int .u8 98] rfl rfl rfl HO.out rfl (by omega) (Nat.le_refl _) ?_; intro v7 w7 h7; have HO7 : Hid (OBb w.heap.size w w7 v7 (34 :: (s.take (k + 1)).flatMap escC)) := (by rw [HTk2.out, HE.out]; exact h7); clear h7 HO HTk2 HE)
        go_roundw
        case rel => exact ⟨k + 1, by go_num, by omega, HO7⟩
        case measure => simp [intOf]; omega
      have b8 : ((x.toNat : Int) == 8) = false := by
        rw [beq_eq_false_iff_ne]
        intro e
        exact hx8 (UInt8.toNat_inj.1 (by have : (8 : UInt8).toNat = 8 := rfl; omega))
      by_cases hx12 : x = 12
      · subst hx12
        have HE : Hid (escC 12 = [92, 102]) := by show _ = _; decide +kernel
        go_wp2_with (at_builtin; refine append_litb (wr := wr) rfl (.tmp 46) (.tmp 47) rfl w.heap.size (.slice va L.length vc) L [92, 102] 2 #[.int .u8 92, .int .u8 102] rfl rfl rfl HO.out rfl (by omega) (Nat.le_refl _) ?_; intro v7 w7 h7; have HO7 : Hid (OBb w.heap.size w w7 v7 (34 :: (s.take (k + 1)).flatMap escC)) := (by rw [HTk2.out, HE.out]; exact h7); clear h7 HO HTk2 HE)
        go_roundw
        case rel => exact ⟨k + 1, by go_num, by omega, HO7⟩
        case measure => simp [intOf]; omega
      have b12 : ((x.toNat : Int) == 12) = false := by
        rw [beq_eq_false_iff_ne]
        intro e
        exact hx12 (UInt8.toNat_inj.1 (by have : (12 : UInt8).toNat = 12 := rfl; omega))
      by_cases hx10 : x = 10
      · subst hx10
        have HE : Hid (escC 10 = [92, 110]) := by show _ = _; decide +kernel
        go_wp2_with (at_builtin; refine append_litb (wr := wr) rfl (.tmp 52) (.tmp 53) rfl w.heap.size (.slice va L.length vc) L [92, 110] 2 #[.int .u8 92, .int .u8 110] rfl rfl rfl HO.out rfl (by omega) (Nat.le_refl _) ?_; intro v7 w7 h7; have HO7 : Hid (OBb w.heap.size w w7 v7 (34 :: (s.take (k + 1)).flatMap escC)) := (by rw [HTk2.out, HE.out]; exact h7); clear h7 HO HTk2 HE)
        go_roundw
        case rel => exact ⟨k + 1, by go_num, by omega, HO7⟩
        case measure => simp [intOf]; omega
      have b10 : ((x.toNat : Int) == 10) = false := by
        rw [beq_eq_false_iff_ne]
        intro e
        exact hx10 (UInt8.toNat_inj.1 (by have : (10 : UInt8).toNat = 10 := rfl; omega))
      by_cases hx13 : x = 13
      · subst hx13
        have HE : Hid (escC 13 = [92, 114]) := by show _ = _; decide +kernel
        go_wp2_with (at_builtin; refine append_litb (wr := wr) rfl (.tmp 58) (.tmp 59) rfl w.heap.size (.slice va L.length vc) L [92, 114] 2 #[.int .u8 92, .int .u8 114] rfl rfl rfl HO.out rfl (by omega) (Nat.le_refl _) ?_; intro v7 w7 h7; have HO7 : Hid (OBb w.heap.size w w7 v7 (34 :: (s.take (k + 1)).flatMap escC)) := (by rw [HTk2.out, HE.out]; exact h7); clear h7 HO HTk2 HE)
        go_roundw
        case rel => exact ⟨k + 1, by go_num, by omega, HO7⟩
        case measure => simp [intOf]; omega
      have b13 : ((x.toNat : Int) == 13) = false := by
        rw [beq_eq_false_iff_ne]
        intro e
        exact hx13 (UInt8.toNat_inj.1 (by have : (13 : UInt8).toNat = 13 := rfl; omega))
      by_cases hx9 : x = 9
      · subst hx9
        have HE : Hid (escC 9 = [92, 116]) := by show _ = _; decide +kernel
        go_wp2_with (at_builtin; refine append_litb (wr := wr) rfl (.tmp 64) (.tmp 65) rfl w.heap.size (.slice va L.length vc) L [92, 116] 2 #[.int .u8 92, .int .u8 116] rfl rfl rfl HO.out rfl (by omega) (Nat.le_refl _) ?_; intro v7 w7 h7; have HO7 : Hid (OBb w.heap.size w w7 v7 (34 :: (s.take (k + 1)).flatMap escC)) := (by rw [HTk2.out, HE.out]; exact h7); clear h7 HO HTk2 HE)
        go_roundw
        case rel => exact ⟨k + 1, by go_num, by omega, HO7⟩
        case measure => simp [intOf]; omega
      have b9 : ((x.toNat : Int) == 9) = false := by
        rw [beq_eq_false_iff_ne]
        intro e
        exact hx9 (UInt8.toNat_inj.1 (by have : (9 : UInt8).toNat = 9 := rfl; omega))
      have hnm : x ∉ escB := by
        simp only [escB, List.mem_cons, List.not_mem_nil, or_false]
        rintro (h | h | h | h | h | h | h)
        · exact hx34 h
        · exact hx92 h
        · exact hx8 h
        · exact hx12 h
        · exact hx10 h
        · exact hx13 h
        · exact hx9 h
      clear hx34 hx92 hx8 hx12 hx10 hx13 hx9
      by_cases h32 : x.toNat < 32
      · have b32 : decide ((x.toNat : Int) < 32) = true := decide_eq_true (by omega)
        have HE0 := esc_hex2 x hnm h32
        have e1 : (x.toNat : Int).tdiv 16 = ((x.toNat / 16 : Nat) : Int) := by rw [Int.tdiv_eq_ediv_of_nonneg (by omega)]; rfl
        have e2 : (x.toNat : Int).tmod 16 = ((x.toNat % 16 : Nat) : Int) := by rw [Int.tmod_eq_emod_of_nonneg (by omega)]; rfl
        have l1 : x.toNat / 16 < 16 := by omega
        have l2 : x.toNat % 16 < 16 := by omega
        obtain ⟨y1, hy1⟩ : ∃ y, ([48, 49, 50, 51, 52, 53, 54, 55, 56, 57, 97, 98, 99, 100, 101, 102] : List UInt8).getD (x.toNat / 16) 0 = y := ⟨_, rfl⟩
        obtain ⟨y2, hy2⟩ : ∃ y, ([48, 49, 50, 51, 52, 53, 54, 55, 56, 57, 97, 98, 99, 100, 101, 102] : List UInt8).getD (x.toNat % 16) 0 = y := ⟨_, rfl⟩
        rw [hy1, hy2] at HE0
        have HE : Hid (escC x = [92, 117, 48, 48, y1, y2]) := HE0
        have gh1 : (⟨#[48, 49, 50, 51, 52, 53, 54, 55, 56, 57, 97, 98, 99, 100, 101, 102]⟩ : ByteArray)[x.toNat / 16]'(by show _ < 16; exact l1) = y1 := by rw [← hy1, List.getD_eq_getElem?_getD, List.getElem?_eq_getElem (by exact l1)]; simp [ByteArray.getElem_eq_getElem_data]
        have gh2 : (⟨#[48, 49, 50, 51, 52, 53, 54, 55, 56, 57, 97, 98, 99, 100, 101, 102]⟩ : ByteArray)[x.toNat % 16]'(by show _ < 16; exact l2) = y2 := by rw [← hy2, List.getD_eq_getElem?_getD, List.getElem?_eq_getElem (by exact l2)]; simp [ByteArray.getElem_eq_getElem_data]
        generalize x.toNat / 16 = q1 at *
        generalize x.toNat % 16 = q2 at *
        clear hy1 hy2 HE0 hnm
        have lq1 : (q1 : Int) < 16 := by omega
        have hq1 : IntKind.i64.wrap (q1 : Int) = (q1 : Int) := IntWalk.i64_in _ (by omega)
        have lq2 : (q2 : Int) < 16 := by omega
        have hq2 : IntKind.i64.wrap (q2 : Int) = (q2 : Int) := IntWalk.i64_in _ (by omega)
        go_upto_region 21 with fail
        obtain ⟨i1, hj, hy0, hy1, hy2⟩ := info_parts infoB
        refine wp_region_K 11 (fun (_ : World) => True) (by kernel_rfl) ?_
        have hHeld : (fun (_ : World) => True) (World.drew wr) := trivial
        refine wpAnyK_take0 0 (v := ?v1) rfl (by kernel_rfl) (fun _ _ _ h => h) (Or.inl ⟨by rfl, ?hy1⟩) (fun _ => hHeld) ?_
        case hy1 => (intro w hSw; go_simp; try with_reducible rfl)
        try simp only [Act.put, List.setIfInBounds_toArray, List.set_cons_zero, List.set_cons_succ]
        refine wpAnyK_take0 1 (v := ?v2) rfl (by kernel_rfl) (fun _ _ _ h => h) (Or.inl ⟨by rfl, ?hy2⟩) (fun _ => hHeld) ?_
        case hy2 => (intro w hSw; go_simp; try with_reducible rfl)
        try simp only [Act.put, List.setIfInBounds_toArray, List.set_cons_zero, List.set_cons_succ]
        refine wpAnyK_take0 2 (v := ?v3) rfl (by kernel_rfl) (fun _ _ _ h => h) (Or.inl ⟨by rfl, ?hy3⟩) (fun _ => hHeld) ?_
        case hy3 => (intro w hSw; go_simp; try with_reducible rfl)
        try simp only [Act.put, List.setIfInBounds_toArray, List.set_cons_zero, List.set_cons_succ]
        refine wpAnyK_take0 5 (v := ?v4) rfl (by kernel_rfl) (fun _ _ _ h => h) (Or.inl ⟨by rfl, ?hy4⟩) (fun _ => hHeld) ?_
        case hy4 => (intro w hSw; go_simp; try with_reducible rfl)
        try simp only [Act.put, List.setIfInBounds_toArray, List.set_cons_zero, List.set_cons_succ]
        refine wpAnyK_take0 6 (v := ?v5) rfl (by kernel_rfl) (fun _ _ _ h => h) (Or.inl ⟨by rfl, ?hy5⟩) (fun _ => hHeld) ?_
        case hy5 => (intro w hSw; go_simp; try with_reducible rfl)
        try simp only [Act.put, List.setIfInBounds_toArray, List.set_cons_zero, List.set_cons_succ]
        refine wpAnyK_take0 3 (v := ?v6) rfl (by kernel_rfl) (fun _ _ _ h => h) (Or.inl ⟨by rfl, ?hy6⟩) (fun _ => hHeld) ?_
        case hy6 => (intro w hSw; go_simp; try with_reducible rfl)
        try simp only [Act.put, List.setIfInBounds_toArray, List.set_cons_zero, List.set_cons_succ]
        refine wpAnyK_take0 4 (v := ?v7) rfl (by kernel_rfl) (fun _ _ _ h => h) (Or.inl ⟨by rfl, ?hy7⟩) (fun _ => hHeld) ?_
        case hy7 => (intro w hSw; go_simp; try with_reducible rfl)
        try simp only [Act.put, List.setIfInBounds_toArray, List.set_cons_zero, List.set_cons_succ]
        refine wpAnyK_take0 7 (v := ?v8) rfl (by kernel_rfl) (fun _ _ _ h => h) (Or.inl ⟨by rfl, ?hy8⟩) (fun _ => hHeld) ?_
        case hy8 => (intro w hSw; go_simp; try with_reducible rfl)
        try simp only [Act.put, List.setIfInBounds_toArray, List.set_cons_zero, List.set_cons_succ]
        refine wpAnyK_take0 8 (v := ?v9) rfl (by kernel_rfl) (fun _ _ _ h => h) (Or.inl ⟨by rfl, ?hy9⟩) (fun _ => hHeld) ?_
        case hy9 => (intro w hSw; go_simp; try with_reducible rfl)
        try simp only [Act.put, List.setIfInBounds_toArray, List.set_cons_zero, List.set_cons_succ]
        refine wpAnyK_step 9 rfl (by kernel_rfl) (fun K9 hK => ?_)
        go_simp
        have HAB : Hid (Below wr.heap.size wr (wr.drew.alloc (Obj.cells #[.int .u8 92, .int .u8 117, .int .u8 48, .int .u8 48, .int .u8 (y1.toNat : Int), .int .u8 (y2.toNat : Int)] 5))) := alloc_below_drew2 wr _
        have HNB : Hid (Bl 5 (wr.drew.alloc (Obj.cells #[.int .u8 92, .int .u8 117, .int .u8 48, .int .u8 48, .int .u8 (y1.toNat : Int), .int .u8 (y2.toNat : Int)] 5)) wr.heap.size (([92, 117, 48, 48, y1, y2] : List UInt8).map B)) := alloc_bl wr.drew _ _
        have HNW : Hid (∀ j u, (([92, 117, 48, 48, y1, y2] : List UInt8).map B)[j]? = some u → (wr.drew.alloc (Obj.cells #[.int .u8 92, .int .u8 117, .int .u8 48, .int .u8 48, .int .u8 (y1.toNat : Int), .int .u8 (y2.toNat : Int)] 5)).cell? ((⟨wr.heap.size, 0, none⟩ : Addr).add j) = some u) := fun j u hu => by (obtain ⟨hlt, e⟩ := List.getElem?_eq_some_iff.1 hu; rw [Addr.add_mid, Nat.zero_add, ← e]; exact HNB.out.cell j hlt)
        have HOB := HO.out.own.below HAB.out (Nat.le_refl _)
        have HSB : w.heap.size ≤ (wr.drew.alloc (Obj.cells #[.int .u8 92, .int .u8 117, .int .u8 48, .int .u8 48, .int .u8 (y1.toNat : Int), .int .u8 (y2.toNat : Int)] 5)).heap.size := Nat.le_trans HO.out.bel.size HAB.out.size
        refine hK.out _ _ (fun _ => trivial) ?_
        clear hK
        try simp only [Act.put, List.setIfInBounds_toArray, List.set_cons_zero, List.set_cons_succ]
        refine wpAnyK_step 10 rfl (by kernel_rfl) (fun K9 hK => ?_)
        rw [if_pos (by rfl)]
        refine wp_append_own_wide _ (.tmp 70) (.tmp 79) 48 rfl w.heap.size 5 i1 (.int .u8 0) 1 1 Tryd.underlying48 hj hy0 hy1 hy2 rfl (by decide) (.slice va L.length vc) L.length (L.map B) rfl HOB ⟨wr.heap.size, 0, none⟩ 6 6 (([92, 117, 48, 48, y1, y2] : List UInt8).map B) rfl rfl HNW.out (oneB _) (by unfold maxLen; omega) (by omega) HSB ?_
        intro v7 w7 hownZ hgrowZ hnilZ
        have HO7 : Hid (OBb w.heap.size w w7 v7 (34 :: (s.take (k + 1)).flatMap escC)) := by
          rw [HTk2.out, HE.out]
          refine ⟨?_, (HO.out.bel.trans (HAB.out.mono HO.out.bel.size)).grown hgrowZ HSB (own_block HOB)⟩
          unfold Owb
          rw [List.map_append, List.length_append]
          exact hownZ
        clear hownZ hgrowZ hnilZ HOB HNW HNB HAB HSB HO HTk2 HE
        refine hK.out _ _ (fun _ => trivial) ?_
        clear hK
        try simp only [Act.put, List.setIfInBounds_toArray, List.set_cons_zero, List.set_cons_succ]
        refine wpAnyK_step 11 rfl (by kernel_rfl) (fun K hK => ?_)
        go_simp
        refine hK.out _ _ (fun _ => trivial) ?_
        clear hK K
        try simp only [Act.put, List.setIfInBounds_toArray, List.set_cons_zero, List.set_cons_succ]
        refine wpAnyK_done (by kernel_rfl) ?_ _
        go_wp2
        go_roundw
        case rel => exact ⟨k + 1, by go_num, by omega, HO7⟩
        case measure => simp [intOf]; omega
      · have b32 : decide ((x.toNat : Int) < 32) = false := decide_eq_false (by omega)
        have HE : Hid (escC x = [x]) := esc_none2 x hnm h32
        clear hnm h32
        go_wp2_with (at_builtin; refine append_litb (wr := wr) rfl (.tmp 18) (.tmp 22) rfl w.heap.size (.slice va L.length vc) L [x] 1 #[.int .u8 (x.toNat : Int)] rfl rfl rfl HO.out rfl (by omega) (Nat.le_refl _) ?_; intro v7 w7 h7; have HO7 : Hid (OBb w.heap.size w w7 v7 (34 :: (s.take (k + 1)).flatMap escC)) := (by rw [HTk2.out, HE.out]; exact h7); clear h7 HO HTk2 HE)
        go_roundw
        case rel => exact ⟨k + 1, by go_num, by omega, HO7⟩
        case measure => simp [intOf]; omega
    · have d1 : decide ((k : Int) < (s.length : Int)) = false := decide_eq_false (by omega)
      obtain rfl : k = s.length := by omega
      have HQ2 := HQ.out
      generalize 34 :: (s.take s.length).flatMap escC = L at HO HQ2 hln ev
      subst ev
      obtain ⟨M, hM⟩ : ∃ M, L ++ [34] = M := ⟨_, rfl⟩
      rw [hM] at HQ2
      have HQ3 : Hid (quoS s = M) := HQ2
      clear HQ HQ2 HT HL
      go_wp2_with (at_builtin; refine append_litb (wr := wr) rfl (.tmp 81) (.tmp 82) rfl w.heap.size (.slice va L.length vc) L [34] 1 #[.int .u8 34] rfl rfl rfl HO.out rfl (by omega) (Nat.le_refl _) ?_; intro v7 w7 h7; rw [hM] at h7; obtain ⟨va7, vc7, ev7, _, hr7⟩ := h7.own.nb; subst ev7; have hcv := conv_any w7 va7 vc7 M hr7; have HB7 : Hid (Below w.heap.size w w7) := h7.bel; clear h7 hr7 HO hln)
      go_wp2
      go_ret
      rw [HQ3.out]
      exact ⟨rfl, HB7.out⟩

end Go.Proofs.YtglnhlmacngdpaaDoor

namespace Go.Proofs.YtglnhlmacngdpaaDoor
open Go.RowKit Go.Shelf

theorem sapp3 (a b : List UInt8) : (⟨a.toArray⟩ : ByteArray) ++ ⟨b.toArray⟩ = ⟨(a ++ b).toArray⟩ := by
  apply ByteArray.ext
  simp
theorem kids_lenP {v : List Nd} {a : Int} : (kidsF v a).length ≤ v.length := by
  unfold kidsF
  split
  · rename_i h
    have := kidsF_len (v := v) (v.length + 1) (a.toNat + 1) (v.getD a.toNat (nd0 0)).kids (by omega)
    omega
  · simp
/-- The contract of print, so many levels deep. -/
def PrC (f : Nat) : Prop := ∀ (l : List Nd) (ao : Option Addr) (cap i : Nat) (w : World), NR w (.slice ao l.length cap) l ao cap → l.length ≤ 100000000 → TS l → (∀ i, i < l.length → At l i) → Fit l f i →
  Calls Tryd.prog 19 #[.slice ao l.length cap, .int .i64 (i : Int)] w fun e w' => e = .returned (.string ⟨(dpF l f i).toArray⟩) ∧ Below w.heap.size w w'

set_option maxRecDepth 100000 in
set_option maxHeartbeats 16000000 in
theorem rprint_step (f : Nat) (ih : PrC f) : PrC (f + 1) := by
  intro l ao cap i w h hl hT hA hF
  obtain ⟨hi, hlen, hkF⟩ := hF
  obtain ⟨g, off, rfl, hcell⟩ := h.at hi
  obtain ⟨nd, hnd⟩ : ∃ x, l.getD i (nd0 0) = x := ⟨_, rfl⟩
  have hTx := hT i hi
  rw [hnd] at hcell hTx
  have HF : Hid (dpF l (f + 1) i = if nd.kind = 1 then [110, 117, 108, 108]
    else if nd.kind = 2 then [102, 97, 108, 115, 101]
    else if nd.kind = 3 then [116, 114, 117, 101]
    else if nd.kind = 4 then nd.text
    else if nd.kind = 5 then quoS nd.text
    else if nd.kind = 7 then 123 :: (jnF true l (dpF l f) true (kidsF l (i : Int)) ++ [125])
    else 91 :: (jnF false l (dpF l f) true (kidsF l (i : Int)) ++ [93])) := by
    show _ = _
    conv => lhs; unfold dpF
    rw [hnd]
  have HLn : Hid ((dpF l (f + 1) i).length ≤ 4000000000000000000) := hlen
  obtain ⟨K, Y, T, b, z, c⟩ := nd
  simp only at HF hTx
  have p0 : w.rangeAt g (off + i * 6) [.int .i64 K, .string ⟨Y.toArray⟩, .string ⟨T.toArray⟩, .bool b, .int .i64 z, .int .i64 c] := fun j u hu => by
    obtain ⟨hj, _⟩ := List.getElem?_eq_some_iff.1 hu
    exact hcell j u hj hu
  obtain ⟨w0, hw0⟩ : ∃ w0 : World, w.alloc (.cells #[.int .i64 K, .string ⟨Y.toArray⟩, .string ⟨T.toArray⟩, .bool b, .int .i64 z, .int .i64 c] 36) = w0 := ⟨_, rfl⟩
  have hB0 : Below w.heap.size w w0 := by rw [← hw0]; exact alloc_below _ _
  have HB0 : Hid (Below w.heap.size w w0) := hB0
  have hBl : Bl 36 w0 w.heap.size (nC ⟨K, Y, T, b, z, c⟩) := by rw [← hw0]; exact alloc_bl _ _ _
  have HW0 : Hid (w.alloc (.cells #[.int .i64 K, .string ⟨Y.toArray⟩, .string ⟨T.toArray⟩, .bool b, .int .i64 z, .int .i64 c] 36) = w0) := hw0
  have ck : w0.cell? ⟨w.heap.size, 0, none⟩ = some (.int .i64 K) := hBl.cell 0 (by simp [nC])
  have ct : w0.cell? ⟨w.heap.size, 2, none⟩ = some (.string ⟨T.toArray⟩) := hBl.cell 2 (by simp [nC])
  have hch : (Tryd.prog.info? 36).map (·.size) = some ([.int .i64 K, .string ⟨Y.toArray⟩, .string ⟨T.toArray⟩, .bool b, .int .i64 z, .int .i64 c] : List Value).length := by kernel_rfl
  by_cases h1 : K = 1
  · subst h1
    have HX : Hid (dpF l (f + 1) i = [110, 117, 108, 108]) := by show _ = _; rw [HF.out]; rfl
    clear hA hkF hcell hnd hT ih hw0 h hTx hBl HF HLn hlen
    go_enter Tryd.func19, Tryd.ntmps19
    go_wp2_with (first | (refine wpList_load_mid rfl 36 (.tmp 13) rfl g (off + i * 6) rfl [.int .i64 1, .string ⟨Y.toArray⟩, .string ⟨T.toArray⟩, .bool b, .int .i64 z, .int .i64 c] _ p0 Tryd.underlying36 rfl hch ?_) | (rw [HW0.out]; clear HW0) | fail)
    go_ret
    rw [HX.out]
    exact ⟨rfl, HB0.out⟩
  have e1 : (K == 1) = false := by simpa using h1
  by_cases h2 : K = 2
  · subst h2
    have HX : Hid (dpF l (f + 1) i = [102, 97, 108, 115, 101]) := by show _ = _; rw [HF.out]; rfl
    clear hA hkF hcell hnd hT ih hw0 h hTx hBl HF HLn hlen
    go_enter Tryd.func19, Tryd.ntmps19
    go_wp2_with (first | (refine wpList_load_mid rfl 36 (.tmp 13) rfl g (off + i * 6) rfl [.int .i64 2, .string ⟨Y.toArray⟩, .string ⟨T.toArray⟩, .bool b, .int .i64 z, .int .i64 c] _ p0 Tryd.underlying36 rfl hch ?_) | (rw [HW0.out]; clear HW0) | fail)
    go_ret
    rw [HX.out]
    exact ⟨rfl, HB0.out⟩
  have e2 : (K == 2) = false := by simpa using h2
  by_cases h3 : K = 3
  · subst h3
    have HX : Hid (dpF l (f + 1) i = [116, 114, 117, 101]) := by show _ = _; rw [HF.out]; rfl
    clear hA hkF hcell hnd hT ih hw0 h hTx hBl HF HLn hlen
    go_enter Tryd.func19, Tryd.ntmps19
    go_wp2_with (first | (refine wpList_load_mid rfl 36 (.tmp 13) rfl g (off + i * 6) rfl [.int .i64 3, .string ⟨Y.toArray⟩, .string ⟨T.toArray⟩, .bool b, .int .i64 z, .int .i64 c] _ p0 Tryd.underlying36 rfl hch ?_) | (rw [HW0.out]; clear HW0) | fail)
    go_ret
    rw [HX.out]
    exact ⟨rfl, HB0.out⟩
  have e3 : (K == 3) = false := by simpa using h3
  by_cases h4 : K = 4
  · subst h4
    have HX : Hid (dpF l (f + 1) i = T) := by show _ = _; rw [HF.out]; rfl
    clear hA hkF hcell hnd hT ih hw0 h hTx hBl HF HLn hlen
    go_enter Tryd.func19, Tryd.ntmps19
    go_wp2_with (first | (refine wpList_load_mid rfl 36 (.tmp 13) rfl g (off + i * 6) rfl [.int .i64 4, .string ⟨Y.toArray⟩, .string ⟨T.toArray⟩, .bool b, .int .i64 z, .int .i64 c] _ p0 Tryd.underlying36 rfl hch ?_) | (rw [HW0.out]; clear HW0) | fail)
    go_ret
    rw [HX.out]
    exact ⟨rfl, HB0.out⟩
  have e4 : (K == 4) = false := by simpa using h4
  by_cases h5 : K = 5
  · subst h5
    have HX : Hid (dpF l (f + 1) i = quoS T) := by show _ = _; rw [HF.out]; rfl
    have CQ := rquoS_any T w0 hTx.1
    clear hA hkF hcell hnd hT ih hw0 h hTx hBl HF HLn hlen
    go_enter Tryd.func19, Tryd.ntmps19
    go_wp2_with (first | (refine wpList_load_mid rfl 36 (.tmp 13) rfl g (off + i * 6) rfl [.int .i64 5, .string ⟨Y.toArray⟩, .string ⟨T.toArray⟩, .bool b, .int .i64 z, .int .i64 c] _ p0 Tryd.underlying36 rfl hch ?_) | (rw [HW0.out]; clear HW0) | fail)
    refine CQ.mono ?_
    clear CQ
    rintro e w1 ⟨rfl, hB1⟩
    have HB1 : Hid (Below w.heap.size w w1) := HB0.out.trans (hB1.mono HB0.out.size)
    clear hB1 ck ct p0
    go_wp2
    go_ret
    rw [HX.out]
    exact ⟨rfl, HB1.out⟩
  have e5 : (K == 5) = false := by simpa using h5
  obtain ⟨ob, hob⟩ : ∃ o : Bool, (K == 7) = o := ⟨_, rfl⟩
  have HX : Hid (dpF l (f + 1) i = (if ob = true then 123 else 91) :: (jnF ob l (dpF l f) true (kidsF l (i : Int)) ++ [if ob = true then 125 else 93])) := by
    show _ = _
    rw [HF.out, if_neg h1, if_neg h2, if_neg h3, if_neg h4, if_neg h5]
    cases ob
    · rw [if_neg (by simpa using hob)]; rfl
    · rw [if_pos (by simpa using hob)]; rfl
  have HJL : Hid (∀ j, (jnF ob l (dpF l f) true ((kidsF l (i : Int)).take j)).length + 2 ≤ 4000000000000000000) := fun j => by
    have h1 := HLn.out
    rw [HX.out, List.length_cons, List.length_append, List.length_singleton] at h1
    have h2 := jn_take_le ob l (dpF l f) true (kidsF l (i : Int)) j
    omega
  have CK := rkids_any_w l (some ⟨g, off, none⟩) cap i w0 (h.below hB0 (Nat.le_refl _)) hl hA hi
  have HNq : Hid (∀ wx, Below w.heap.size w wx → NR wx (.slice (some ⟨g, off, none⟩) l.length cap) l (some ⟨g, off, none⟩) cap) := fun wx hx => h.below hx (Nat.le_refl _)
  have HBlq : Hid (∀ wx, Below w0.heap.size w0 wx → wx.cell? ⟨w.heap.size, 0, none⟩ = some (.int .i64 K)) := fun wx hx => (hBl.below hx hBl.lt).cell 0 (by simp [nC])
  have HLT : Hid (∀ x ∈ kidsF l (i : Int), x < l.length) := kidsF_lt
  have HFK : Hid (∀ k ∈ kidsF l (i : Int), Fit l f k) := hkF
  have HIH : Hid (∀ (m : Nat) (wq : World), NR wq (.slice (some ⟨g, off, none⟩) l.length cap) l (some ⟨g, off, none⟩) cap → Fit l f m → Calls Tryd.prog 19 #[.slice (some ⟨g, off, none⟩) l.length cap, .int .i64 (m : Int)] wq fun e w' => e = .returned (.string ⟨(dpF l f m).toArray⟩) ∧ Below wq.heap.size wq w') := fun m wq hq hf => ih l _ cap m wq hq hl hT hA hf
  have HTS : Hid (∀ m, m < l.length → (l.getD m (nd0 0)).key.length ≤ 1000000000) := fun m hm => (hT m hm).2
  have HJT : Hid (∀ j, j < (kidsF l (i : Int)).length → jnF ob l (dpF l f) true ((kidsF l (i : Int)).take (j + 1)) = jnF ob l (dpF l f) true ((kidsF l (i : Int)).take j) ++ ((if j = 0 then [] else [44]) ++ (if ob then quoS (l.getD ((kidsF l (i : Int)).getD j 0) (nd0 0)).key ++ [58] else []) ++ dpF l f ((kidsF l (i : Int)).getD j 0))) := fun j hj => jn_take ob l (dpF l f) hj
  have hkl : (kidsF l (i : Int)).length ≤ l.length := by
    exact kids_lenP
  generalize kidsF l (i : Int) = L at *
  clear hA hkF hcell hnd hT ih hw0 h hTx hBl HF HLn hlen hB0 h1 h2 h3 h4 h5 ct
  go_enter Tryd.func19, Tryd.ntmps19
  go_wp2_with (first | (refine wpList_load_mid rfl 36 (.tmp 13) rfl g (off + i * 6) rfl [.int .i64 K, .string ⟨Y.toArray⟩, .string ⟨T.toArray⟩, .bool b, .int .i64 z, .int .i64 c] _ p0 Tryd.underlying36 rfl hch ?_) | (rw [HW0.out]; clear HW0) | fail)
  refine CK.mono ?_
  clear CK ck p0
  rintro e w1 ⟨r, rfl, hoi⟩
  obtain ⟨ka, kc, rfl, hkc, hkat⟩ := hoi.at
  have HAT : Hid (∀ wx, Below w1.heap.size w1 wx → ∀ j, j < L.length → ∃ g, ka = some ⟨g, 0, none⟩ ∧ wx.cell? ⟨g, j, none⟩ = some (iV (L.getD j 0))) := fun wx hx j hj => by
    obtain ⟨g', e, hc⟩ := hkat j hj
    exact ⟨g', e, cell_but hc fun _ => hx.block g' (World.block_lt_of_cell? _ _ hc)⟩
  have HB1 : Hid (Below w.heap.size w w1) := HB0.out.trans (hoi.bel.mono HB0.out.size)
  have HK1 : Hid (∀ wx, Below w1.heap.size w1 wx → wx.cell? ⟨w.heap.size, 0, none⟩ = some (.int .i64 K)) := fun wx hx => HBlq.out wx (hoi.bel.trans (hx.mono hoi.bel.size))
  have HN1 : Hid (∀ wx, Below w1.heap.size w1 wx → NR wx (.slice (some ⟨g, off, none⟩) l.length cap) l (some ⟨g, off, none⟩) cap) := fun wx hx => HNq.out wx (HB1.out.trans (hx.mono HB1.out.size))
  clear hoi hkat HNq HBlq HB0
  go_wp2
  go_loopw [8, 6] (fun s8 s6 wx => ∃ j : Nat, s8 = .int .i64 j ∧ j ≤ L.length ∧ s6 = .string ⟨(jnF ob l (dpF l f) true (L.take j)).toArray⟩ ∧ Below w1.heap.size w1 wx) (fun x _ _ => L.length - (intOf x).toNat)
  case atStart => exact ⟨0, rfl, Nat.zero_le _, rfl, Below.refl _ _⟩
  case round =>
    obtain ⟨j, rfl, hj, rfl, hb⟩ := hrel
    have HBr : Hid (Below w1.heap.size w1 wr) := hb
    have ck := HK1.out wr hb
    by_cases hjl : j < L.length
    · have q0 : decide ((j : Int) < (L.length : Int)) = true := decide_eq_true (by omega)
      have hjt := HJT.out j hjl
      have hjb := HJL.out (j + 1)
      rw [hjt] at hjb
      simp only [List.length_append] at hjb
      obtain ⟨kg, rfl, ckj⟩ := HAT.out wr hb j hjl
      have hmm : L.getD j 0 ∈ L := by rw [List.getD_eq_getElem?_getD, List.getElem?_eq_getElem hjl]; exact List.getElem_mem hjl
      have hml : L.getD j 0 < l.length := HLT.out _ hmm
      have hmf := HFK.out _ hmm
      have hmk := HTS.out _ hml
      obtain ⟨g2, off2, e2, hc3⟩ := (HN1.out wr hb).at hml
      cases e2
      clear hmm
      obtain ⟨m, hx2⟩ : ∃ m, L.getD j 0 = m := ⟨_, rfl⟩
      rw [hx2] at ckj hml hmf hmk hc3 hjt hjb
      obtain ⟨x, hx⟩ : ∃ n, l.getD m (nd0 0) = n := ⟨_, rfl⟩
      rw [hx] at hc3 hmk hjt hjb
      have cky := hc3 1 (.string ⟨x.key.toArray⟩) (by omega) rfl
      have HCP : Hid (∀ wx, Below w1.heap.size w1 wx → Calls Tryd.prog 19 #[.slice (some ⟨g, off, none⟩) l.length cap, .int .i64 (m : Int)] wx fun e w' => e = .returned (.string ⟨(dpF l f m).toArray⟩) ∧ Below wx.heap.size wx w') := fun wx hxx => HIH.out m wx (HN1.out wx hxx) hmf
      have HJt : Hid (jnF ob l (dpF l f) true (L.take (j + 1)) = jnF ob l (dpF l f) true (L.take j) ++ ((if j = 0 then [] else [44]) ++ (if ob then quoS x.key ++ [58] else []) ++ dpF l f m)) := hjt
      have HCJ : Hid (∀ wx, Below w1.heap.size w1 wx → wx.cell? ⟨kg, j, none⟩ = some (.int .i64 m)) := fun wx hxx => by
        obtain ⟨g', e, hc⟩ := HAT.out wx hxx j hjl
        cases e
        rw [hx2] at hc
        exact hc
      generalize jnF ob l (dpF l f) true (L.take j) = J at *
      generalize dpF l f m = X at *
      unfold iV at ckj
      clear hb hx hc3 hmf hjt
      cases ob
      · by_cases h0 : j = 0
        · have q1 : decide ((j : Int) > 0) = false := decide_eq_false (by omega)
          have q2 : decide (0 < j) = false := decide_eq_false (by omega)
          have HJ2 : Hid (jnF false l (dpF l f) true (L.take (j + 1)) = J ++ ([] ++ [] ++ X)) := by
            show _ = _
            rw [HJt.out, if_pos h0, if_neg (by decide)]
          rw [if_pos h0] at hjb
          rw [if_neg (by decide)] at hjb
          simp only [List.length_nil] at hjb
          have CP := HCP.out wr HBr.out
          have HBq : Hid (Below w1.heap.size w1 wr) := HBr.out
          clear HJt h0 HCJ HCP cky
          have HA : Hid ((⟨J.toArray⟩ : ByteArray) ++ ⟨X.toArray⟩ = ⟨(J ++ ([] ++ [] ++ X)).toArray⟩) := by
            show (⟨J.toArray⟩ : ByteArray) ++ ⟨X.toArray⟩ = _
            rw [sapp3]
            simp
          go_wp2_with fail
          refine CP.mono ?_
          clear CP
          rintro e w3 ⟨rfl, hB3⟩
          have HB3 : Hid (Below w1.heap.size w1 w3) := HBq.out.trans (hB3.mono HBq.out.size)
          clear hB3 HBq
          go_wp2
          go_roundw
          case rel => exact ⟨j + 1, by go_num, by omega, by rw [HJ2.out]; exact congrArg Value.string HA.out, HB3.out⟩
          case measure => simp [intOf]; omega
        · have q1 : decide ((j : Int) > 0) = true := decide_eq_true (by omega)
          have q2 : decide (0 < j) = true := decide_eq_true (by omega)
          have HJ2 : Hid (jnF false l (dpF l f) true (L.take (j + 1)) = J ++ ([44] ++ [] ++ X)) := by
            show _ = _
            rw [HJt.out, if_neg h0, if_neg (by decide)]
          rw [if_neg h0] at hjb
          rw [if_neg (by decide)] at hjb
          simp only [List.length_cons, List.length_nil] at hjb
          have CP := HCP.out wr HBr.out
          have HBq : Hid (Below w1.heap.size w1 wr) := HBr.out
          clear HJt h0 HCJ HCP cky
          have HA : Hid ((⟨J.toArray⟩ : ByteArray) ++ ⟨#[44]⟩ ++ ⟨X.toArray⟩ = ⟨(J ++ ([44] ++ [] ++ X)).toArray⟩) := by
            show (⟨J.toArray⟩ : ByteArray) ++ ⟨([44] : List UInt8).toArray⟩ ++ ⟨X.toArray⟩ = _
            rw [sapp3, sapp3]
            simp
          go_wp2_with fail
          refine CP.mono ?_
          clear CP
          rintro e w3 ⟨rfl, hB3⟩
          have HB3 : Hid (Below w1.heap.size w1 w3) := HBq.out.trans (hB3.mono HBq.out.size)
          clear hB3 HBq
          go_wp2
          go_roundw
          case rel => exact ⟨j + 1, by go_num, by omega, by rw [HJ2.out]; exact congrArg Value.string HA.out, HB3.out⟩
          case measure => simp [intOf]; omega
      · by_cases h0 : j = 0
        · have q1 : decide ((j : Int) > 0) = false := decide_eq_false (by omega)
          have q2 : decide (0 < j) = false := decide_eq_false (by omega)
          have HJ2 : Hid (jnF true l (dpF l f) true (L.take (j + 1)) = J ++ ([] ++ (quoS x.key ++ [58]) ++ X)) := by
            show _ = _
            rw [HJt.out, if_pos h0]; rfl
          rw [if_pos h0] at hjb
          have CQ := rquoS_any x.key wr hmk
          rw [if_pos rfl] at hjb
          obtain ⟨qk, hqk⟩ : ∃ q, quoS x.key = q := ⟨_, rfl⟩
          rw [hqk] at CQ HJ2 hjb
          simp only [List.length_append, List.length_cons, List.length_nil] at hjb
          clear HJt hqk h0
          go_wp2_with fail
          refine CQ.mono ?_
          clear CQ ck ckj cky
          rintro e w2 ⟨rfl, hB2⟩
          have hb2 : Below w1.heap.size w1 w2 := HBr.out.trans (hB2.mono HBr.out.size)
          have ckj := HCJ.out w2 hb2
          have CP := HCP.out w2 hb2
          have HBq : Hid (Below w1.heap.size w1 w2) := hb2
          clear hB2 hb2 HCJ HCP
          have HA : Hid ((⟨J.toArray⟩ : ByteArray) ++ ⟨qk.toArray⟩ ++ ⟨#[58]⟩ ++ ⟨X.toArray⟩ = ⟨(J ++ ([] ++ (qk ++ [58]) ++ X)).toArray⟩) := by
            show (⟨J.toArray⟩ : ByteArray) ++ ⟨qk.toArray⟩ ++ ⟨([58] : List UInt8).toArray⟩ ++ ⟨X.toArray⟩ = _
            rw [sapp3, sapp3, sapp3]
            simp
          go_wp2_with fail
          refine CP.mono ?_
          clear CP
          rintro e w3 ⟨rfl, hB3⟩
          have HB3 : Hid (Below w1.heap.size w1 w3) := HBq.out.trans (hB3.mono HBq.out.size)
          clear hB3 HBq
          go_wp2
          go_roundw
          case rel => exact ⟨j + 1, by go_num, by omega, by rw [HJ2.out]; exact congrArg Value.string HA.out, HB3.out⟩
          case measure => simp [intOf]; omega
        · have q1 : decide ((j : Int) > 0) = true := decide_eq_true (by omega)
          have q2 : decide (0 < j) = true := decide_eq_true (by omega)
          have HJ2 : Hid (jnF true l (dpF l f) true (L.take (j + 1)) = J ++ ([44] ++ (quoS x.key ++ [58]) ++ X)) := by
            show _ = _
            rw [HJt.out, if_neg h0]; rfl
          rw [if_neg h0] at hjb
          have CQ := rquoS_any x.key wr hmk
          rw [if_pos rfl] at hjb
          obtain ⟨qk, hqk⟩ : ∃ q, quoS x.key = q := ⟨_, rfl⟩
          rw [hqk] at CQ HJ2 hjb
          simp only [List.length_append, List.length_cons, List.length_nil] at hjb
          clear HJt hqk h0
          go_wp2_with fail
          refine CQ.mono ?_
          clear CQ ck ckj cky
          rintro e w2 ⟨rfl, hB2⟩
          have hb2 : Below w1.heap.size w1 w2 := HBr.out.trans (hB2.mono HBr.out.size)
          have ckj := HCJ.out w2 hb2
          have CP := HCP.out w2 hb2
          have HBq : Hid (Below w1.heap.size w1 w2) := hb2
          clear hB2 hb2 HCJ HCP
          have HA : Hid ((⟨J.toArray⟩ : ByteArray) ++ ⟨#[44]⟩ ++ ⟨qk.toArray⟩ ++ ⟨#[58]⟩ ++ ⟨X.toArray⟩ = ⟨(J ++ ([44] ++ (qk ++ [58]) ++ X)).toArray⟩) := by
            show (⟨J.toArray⟩ : ByteArray) ++ ⟨([44] : List UInt8).toArray⟩ ++ ⟨qk.toArray⟩ ++ ⟨([58] : List UInt8).toArray⟩ ++ ⟨X.toArray⟩ = _
            rw [sapp3, sapp3, sapp3, sapp3]
            simp
          go_wp2_with fail
          refine CP.mono ?_
          clear CP
          rintro e w3 ⟨rfl, hB3⟩
          have HB3 : Hid (Below w1.heap.size w1 w3) := HBq.out.trans (hB3.mono HBq.out.size)
          clear hB3 HBq
          go_wp2
          go_roundw
          case rel => exact ⟨j + 1, by go_num, by omega, by rw [HJ2.out]; exact congrArg Value.string HA.out, HB3.out⟩
          case measure => simp [intOf]; omega
    · have q0 : decide ((j : Int) < (L.length : Int)) = false := decide_eq_false (by omega)
      obtain rfl : j = L.length := by omega
      have hjb := HJL.out L.length
      rw [List.take_of_length_le (Nat.le_refl _)] at hjb ⊢
      have HBz : Hid (Below w.heap.size w wr) := HB1.out.trans (hb.mono HB1.out.size)
      generalize jnF ob l (dpF l f) true L = J at *
      clear hb HBr HJL HJT HIH HTS HFK HLT HAT HK1 HN1 HB1
      cases ob
      · have HA : Hid ((⟨#[91]⟩ : ByteArray) ++ ⟨J.toArray⟩ ++ ⟨#[93]⟩ = ⟨(91 :: (J ++ [93])).toArray⟩) := by
          show (⟨([91] : List UInt8).toArray⟩ : ByteArray) ++ ⟨J.toArray⟩ ++ ⟨([93] : List UInt8).toArray⟩ = _
          rw [sapp3, sapp3]; rfl
        go_wp2
        go_ret
        rw [HX.out]
        exact ⟨congrArg (fun x => Ending.returned (.string x)) HA.out, HBz.out⟩
      · have HA : Hid ((⟨#[123]⟩ : ByteArray) ++ ⟨J.toArray⟩ ++ ⟨#[125]⟩ = ⟨(123 :: (J ++ [125])).toArray⟩) := by
          show (⟨([123] : List UInt8).toArray⟩ : ByteArray) ++ ⟨J.toArray⟩ ++ ⟨([125] : List UInt8).toArray⟩ = _
          rw [sapp3, sapp3]; rfl
        go_wp2
        go_ret
        rw [HX.out]
        exact ⟨congrArg (fun x => Ending.returned (.string x)) HA.out, HBz.out⟩
theorem rprint_all : ∀ f, PrC f
  | 0 => fun _ _ _ _ _ _ _ _ _ h => h.elim
  | f + 1 => rprint_step f (rprint_all f)

set_option maxRecDepth 100000 in
set_option maxHeartbeats 4000000 in
/-- The document's Print. -/
theorem rprint_any (l : List Nd) (ao : Option Addr) (cap : Nat) (w : World) (h : NR w (.slice ao l.length cap) l ao cap) (hl : l.length ≤ 100000000) (hT : TS l) (hW : sumW l ≤ 4000000000000000000) :
    Calls Tryd.prog 12 #[.slice ao l.length cap] w fun e w' => e = .returned (.tuple #[.string ⟨(printF l).1.toArray⟩, .int .i64 ((printF l).2 : Int)]) ∧ Below w.heap.size w w' := by
  have CS := rshaped_any l ao cap w h hl hT
  cases hs : shapedF l with
  | false =>
    have HF : Hid (printF l = ([], 31)) := by show _ = _; unfold printF; rw [if_pos hs]
    rw [hs] at CS
    clear h hT hs
    go_enter Tryd.func12, Tryd.ntmps12
    go_wp2_with fail
    refine CS.mono ?_
    clear CS
    rintro e w1 ⟨rfl, hB⟩
    have HB : Hid (Below w.heap.size w w1) := hB
    clear hB
    go_wp2
    go_ret2
    rw [HF.out]
    exact ⟨rfl, HB.out⟩
  | true =>
    have hsq := shaped_sq hs
    have hfit := fit_of hsq (by omega) hW
    have hln := hfit.2.1
    have heq := dp_eq hsq (by omega)
    have HCP : Hid (∀ wq, Below w.heap.size w wq → Calls Tryd.prog 19 #[.slice ao l.length cap, .int .i64 0] wq fun e w' => e = .returned (.string ⟨(prF l 33 0).1.toArray⟩) ∧ Below wq.heap.size wq w') := fun wq hq => by
      rw [← heq]
      exact rprint_all 33 l ao cap 0 wq (h.below hq (Nat.le_refl _)) hl hT (fun i hi => at_of_w hsq hl hi) hfit
    rw [heq] at hln
    have HF : Hid (printF l = if 262144 < (prF l 33 0).1.length then ([], 10) else ((prF l 33 0).1, 0)) := by show _ = _; unfold printF; rw [if_neg (by rw [hs]; decide)]
    rw [hs] at CS
    generalize (prF l 33 0).1 = X at *
    clear h hT hs hfit heq hsq
    go_enter Tryd.func12, Tryd.ntmps12
    go_wp2_with fail
    refine CS.mono ?_
    clear CS
    rintro e w1 ⟨rfl, hB⟩
    have HB : Hid (Below w.heap.size w w1) := hB
    have CP := HCP.out w1 hB
    clear hB HCP
    go_wp2_with fail
    refine CP.mono ?_
    clear CP
    rintro e w2 ⟨rfl, hB⟩
    have HB2 : Hid (Below w.heap.size w w2) := HB.out.trans (hB.mono HB.out.size)
    clear hB HB
    by_cases hx : 262144 < X.length
    · have q : decide ((X.length : Int) > 262144) = true := decide_eq_true (by omega)
      have HG : Hid (printF l = ([], 10)) := by show _ = _; rw [HF.out]; exact if_pos hx
      clear HF
      go_wp2
      go_ret2
      rw [HG.out]
      exact ⟨rfl, HB2.out⟩
    · have q : decide ((X.length : Int) > 262144) = false := decide_eq_false (by omega)
      have HG : Hid (printF l = (X, 0)) := by show _ = _; rw [HF.out]; exact if_neg hx
      clear HF
      go_wp2
      go_ret2
      rw [HG.out]
      exact ⟨rfl, HB2.out⟩

end Go.Proofs.YtglnhlmacngdpaaDoor
