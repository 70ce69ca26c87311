import Derived.Test.YtapljedegjiliaaDoorBa
import Derived.Test.YtapljedegjiliaaDoorIZ
import Derived.Test.YtapljedegjiliaaDoorGd
import Derived.Test.YtapljedegjiliaaDoorMa
import Derived.Test.YtapljedegjiliaaDoorCZ
import Derived.Lib.Walk
import Derived.Lib.Bytealg
import Derived.Shelf.RegionOpenPlain
import Derived.Test.YtapljedegjiliaaDoorOrk
namespace Go.Proofs.YtapljedegjiliaaDoor
open Go.RowKit

theorem first_dot : ∀ (l : List UInt8), 0 < l.count 46 → ∃ a b, l = a ++ 46 :: b ∧ a.count 46 = 0 ∧ b.count 46 + 1 = l.count 46
  | [], h => by simp at h
  | x :: r, h => by
    by_cases hx : x = 46
    · subst hx
      exact ⟨[], r, rfl, rfl, by simp⟩
    · have h2 : (x :: r).count 46 = r.count 46 := by rw [List.count_cons]; simp [hx]
      rw [h2] at h ⊢
      obtain ⟨a, b, e, h3, h4⟩ := first_dot r h
      exact ⟨x :: a, b, by rw [e]; rfl, by rw [List.count_cons]; simp [hx, h3], h4⟩
theorem three {t : List UInt8} (h : t.count 46 = 2) : ∃ a b c, t = a ++ 46 :: (b ++ 46 :: c) ∧ a.count 46 = 0 ∧ b.count 46 = 0 ∧ c.count 46 = 0 := by
  obtain ⟨a, r, rfl, ha, hr⟩ := first_dot t (by omega)
  obtain ⟨b, c, rfl, hb, hc⟩ := first_dot r (by omega)
  exact ⟨a, b, c, rfl, ha, hb, by omega⟩

/-- What is ahead of the first dot, what behind it. -/
def hdD : List UInt8 → List UInt8
  | [] => []
  | x :: r => if x = 46 then [] else x :: hdD r
def tlD : List UInt8 → List UInt8
  | [] => []
  | x :: r => if x = 46 then r else tlD r
theorem hdD_app (b : List UInt8) : ∀ (a : List UInt8), a.count 46 = 0 → hdD (a ++ 46 :: b) = a
  | [], _ => by simp [hdD]
  | x :: r, h => by
    have hx : x ≠ 46 := fun e => by rw [e] at h; simp at h
    rw [List.count_cons] at h
    rw [List.cons_append, hdD, if_neg hx, hdD_app b r (by omega)]
theorem tlD_app (b : List UInt8) : ∀ (a : List UInt8), a.count 46 = 0 → tlD (a ++ 46 :: b) = b
  | [], _ => by simp [tlD]
  | x :: r, h => by
    have hx : x ≠ 46 := fun e => by rw [e] at h; simp at h
    rw [List.count_cons] at h
    rw [List.cons_append, tlD, if_neg hx, tlD_app b r (by omega)]


theorem hdD_len : ∀ l : List UInt8, (hdD l).length ≤ l.length
  | [] => Nat.le_refl _
  | x :: r => by
    rw [hdD]
    have := hdD_len r
    split
    · simp
    · rw [List.length_cons, List.length_cons]; omega
theorem tlD_len : ∀ l : List UInt8, (tlD l).length ≤ l.length
  | [] => Nat.le_refl _
  | x :: r => by
    rw [tlD]
    have := tlD_len r
    split
    · simp
    · rw [List.length_cons]; omega
/-- A token's three parts, or none. -/
def okT2 (t : List UInt8) : Bool := decide (t.count 46 = 2) && Lib.validD t
def cutF (t : List UInt8) : (List UInt8 × List UInt8 × List UInt8) × Bool := if okT2 t = true then ((hdD t, hdD (tlD t), tlD (tlD t)), true) else (([], [], []), false)
def gnN (t : List UInt8) : List Nd := [⟨7, [], [], false, 0, 2⟩, ⟨5, kPro, hdD t, false, 0, 0⟩, ⟨5, kSig, tlD (tlD t), false, 0, 0⟩]
def gHd (p : List UInt8) (n : Nat) : List Nd := [⟨7, [], [], false, 0, 2⟩, ⟨5, kPay, p, false, 0, 0⟩, ⟨6, kSgs, [], false, 0, (n : Int)⟩]
def okG2 (p t : List UInt8) : Bool := okT2 t && decide (hdD (tlD t) = p)
def payF (ts : List (List UInt8)) : List UInt8 := (cutF (ts.getD 0 [])).1.2.1
def gnF (ts : List (List UInt8)) : List Nd := gHd (payF ts) ts.length ++ ts.flatMap gnN
/-- What General answers. -/
def goodG (ts : List (List UInt8)) : Bool := decide (0 < ts.length) && decide (ts.length ≤ 16) && ts.all (okG2 (payF ts))
def genF (ts : List (List UInt8)) : List UInt8 × Nat := if goodG ts = true then printF (gnF ts) else ([], 140)

theorem cut_parts {a b c : List UInt8} (ha : a.count 46 = 0) (hb : b.count 46 = 0) : hdD (a ++ 46 :: (b ++ 46 :: c)) = a ∧ hdD (tlD (a ++ 46 :: (b ++ 46 :: c))) = b ∧ tlD (tlD (a ++ 46 :: (b ++ 46 :: c))) = c := by
  rw [hdD_app _ a ha, tlD_app _ a ha, hdD_app _ b hb, tlD_app _ b hb]
  exact ⟨rfl, rfl, rfl⟩
theorem gn_take {ts : List (List UInt8)} {k : Nat} (hk : k < ts.length) : (ts.take (k + 1)).flatMap gnN = (ts.take k).flatMap gnN ++ gnN (ts.getD k []) := by
  rw [List.take_add_one, List.getElem?_eq_getElem hk, List.flatMap_append]
  simp [List.getD_eq_getElem?_getD, hk]
theorem gn_len (ts : List (List UInt8)) : (ts.flatMap gnN).length = 3 * ts.length := by
  induction ts with
  | nil => rfl
  | cons t r ih => rw [List.flatMap_cons, List.length_append, ih, List.length_cons]; simp [gnN]; omega
theorem gnF_len (ts : List (List UInt8)) : (gnF ts).length = 3 + 3 * ts.length := by
  unfold gnF
  rw [List.length_append, gn_len]
  simp [gHd]
theorem all_dropT {f : List UInt8 → Bool} {L : List (List UInt8)} {j : Nat} (hj : j < L.length) : (L.drop j).all f = (f (L.getD j []) && (L.drop (j + 1)).all f) := by
  have e : L.getD j [] = L[j] := by rw [List.getD_eq_getElem?_getD, List.getElem?_eq_getElem hj]; rfl
  rw [e, List.drop_eq_getElem_cons hj]
  rfl
/-- The texts of the value are not long. -/
theorem gn_bd {ts : List (List UInt8)} {B : Nat} (h : ∀ t ∈ ts, t.length ≤ B) (hB : 10 ≤ B) : ∀ n ∈ gnF ts, n.text.length ≤ B ∧ n.key.length ≤ B := by
  intro n hn
  have hp : (payF ts).length ≤ B := by
    unfold payF cutF
    split
    · show (hdD (tlD (ts.getD 0 []))).length ≤ B
      have h1 := hdD_len (tlD (ts.getD 0 []))
      have h2 := tlD_len (ts.getD 0 [])
      have h3 : (ts.getD 0 []).length ≤ B := by
        cases ts with
        | nil => simp
        | cons t r => exact h t (by simp)
      omega
    · simp
  unfold gnF at hn
  rcases List.mem_append.1 hn with hn | hn
  · simp only [gHd, List.mem_cons, List.not_mem_nil, or_false] at hn
    rcases hn with rfl | rfl | rfl <;> simp <;> omega
  · obtain ⟨t, ht, hn⟩ := List.mem_flatMap.1 hn
    have h0 := h t ht
    have h1 := hdD_len t
    have h2 := tlD_len t
    have h3 := tlD_len (tlD t)
    simp only [gnN, List.mem_cons, List.not_mem_nil, or_false] at hn
    rcases hn with rfl | rfl | rfl <;> simp <;> omega
theorem sumW_le {X : List Nd} {B : Nat} (h : ∀ n ∈ X, n.text.length ≤ B ∧ n.key.length ≤ B) : sumW X ≤ X.length * (12 * B + 12) := by
  induction X with
  | nil => simp [sumW]
  | cons n r ih =>
    have h1 := h n (by simp)
    have h2 := ih (fun x hx => h x (by simp [hx]))
    rw [sumW, wN, List.length_cons, Nat.add_mul]
    omega
theorem ts_of {X : List Nd} {B : Nat} (h : ∀ n ∈ X, n.text.length ≤ B ∧ n.key.length ≤ B) (hB : B ≤ 1000000000) : TS X := fun i hi => by
  have := h (X.getD i (nd0 0)) (by rw [List.getD_eq_getElem?_getD, List.getElem?_eq_getElem hi]; exact List.getElem_mem hi)
  omega
theorem tb_of {X : List Nd} {B : Nat} (h : ∀ n ∈ X, n.text.length ≤ B ∧ n.key.length ≤ B) (hB : B ≤ 1073741824) : TB X := fun n hn => by
  have := h n hn
  omega
/-- A text alone is well shaped just if it is UTF-8. -/
theorem shaped_one (t : List UInt8) : shapedF [⟨5, [], t, false, 0, 0⟩] = Lib.validD t := by
  have hw : wmF ⟨5, [], t, false, 0, 0⟩ 0 = Lib.validD t := by
    unfold wmF
    simp [nd0]
  cases hv : Lib.validD t with
  | true =>
    exact Sq.shaped (Sq.one (n := ⟨5, [], t, false, 0, 0⟩) (by rw [hw, hv]) (Sq.nil _) rfl (by unfold KeysOK; simp))
  | false =>
    cases hs : shapedF [⟨5, [], t, false, 0, 0⟩] with
    | false => rfl
    | true =>
      have h := shaped_sq hs
      obtain ⟨d, n, ks, r, pre, post, hd, hvv, hp, hw2, _⟩ := h.at 0 (by simp)
      have hpre : pre = [] := List.eq_nil_of_length_eq_zero hp
      rw [hpre] at hvv
      simp at hvv
      rw [← hvv.1] at hw2
      have := wm_low hw2 (d' := 0) hd
      rw [hw, hv] at this
      cases this

end Go.Proofs.YtapljedegjiliaaDoor

namespace Go.Proofs.YtapljedegjiliaaDoor
open Go.RowKit Go.Shelf

theorem results_tmp4 {fn : Func} {t u v x : Tmp} (h : fn.results = #[.tmp t, .tmp u, .tmp v, .tmp x]) (tmps : Array Value) (P : Program) (w : World) :
    (results fn tmps).run P w = .ok (.tuple #[tmps.getD t undef, tmps.getD u undef, tmps.getD v undef, tmps.getD x undef]) w := by
  simp [results, h]
set_option maxRecDepth 100000 in
/-- strings.Count of dots. -/
theorem count_any (t : List UInt8) (w : World) : Calls Tryd.prog 23 #[.string ⟨t.toArray⟩, .string ⟨#[46]⟩] w fun e w' => e = .returned (.int .i64 (t.count 46 : Nat)) ∧ w' = w := by
  go_enter Tryd.func23, Tryd.ntmps23
  go_wp2
  rw [run_callFunc_extern Tryd.func36 (by kernel_rfl) (by kernel_rfl) (by kernel_rfl) (e := Extern.BytealgCount.count) (by kernel_rfl), Lib.run_countString]
  simp only [Result.andThen]
  rw [Oper.upon_value]
  go_wp2
  go_ret
  exact ⟨rfl, rfl⟩

theorem index_dot : ∀ (a b : List UInt8), a.count 46 = 0 → Lib.indexByte (a ++ 46 :: b) 46 = (a.length : Int)
  | [], b, _ => by simp [Lib.indexByte]
  | x :: r, b, h => by
    have hx : x ≠ 46 := fun e => by rw [e] at h; simp at h
    rw [List.count_cons] at h
    have ih := index_dot r b (by omega)
    rw [List.cons_append, Lib.indexByte, ih]
    simp [hx]

set_option maxRecDepth 100000 in
set_option maxHeartbeats 1000000 in
/-- stringslite.Index of a dot. -/
theorem sindex_any (a b : List UInt8) (w : World) (ha : a.count 46 = 0) : Calls Tryd.prog 47 #[.string ⟨(a ++ 46 :: b).toArray⟩, .string ⟨#[46]⟩] w fun e w' => e = .returned (.int .i64 (a.length : Nat)) ∧ w' = w := by
  have HI : Hid (Lib.indexByte (a ++ 46 :: b) 46 = (a.length : Int)) := index_dot a b ha
  obtain ⟨t, ht⟩ : ∃ t, a ++ 46 :: b = t := ⟨_, rfl⟩
  rw [ht] at HI ⊢
  clear ht ha
  by_cases hq : t = [46]
  · subst hq
    have c0 : (([46] : List UInt8) == [46]) = true := rfl
    go_enter Tryd.func47, Tryd.ntmps47
    go_wp2
    go_ret
    exact ⟨congrArg (fun i => Ending.returned (.int .i64 i)) HI.out, rfl⟩
  · have c0 : (([46] : List UInt8) == t) = false := beq_eq_false_iff_ne.2 (fun e => hq e.symm)
    go_enter Tryd.func47, Tryd.ntmps47
    go_wp2
    rw [run_callFunc_extern Tryd.func63 (by kernel_rfl) (by kernel_rfl) (by kernel_rfl) (e := Extern.BytealgIndexByte.indexByte) (by kernel_rfl), Lib.run_indexByteString]
    simp only [Result.andThen]
    rw [Oper.upon_value]
    go_wp2
    go_ret
    exact ⟨congrArg (fun i => Ending.returned (.int .i64 i)) HI.out, rfl⟩

theorem ext_take (a b : List UInt8) : (⟨(a ++ 46 :: b).toArray⟩ : ByteArray).extract 0 a.length = ⟨a.toArray⟩ := by
  rw [Lib.extract_eq]
  simp
theorem ext_drop (a b : List UInt8) (n : Nat) (hn : (a ++ 46 :: b).length ≤ n) : (⟨(a ++ 46 :: b).toArray⟩ : ByteArray).extract (a.length + 1) n = ⟨b.toArray⟩ := by
  rw [Lib.extract_eq]
  congr 2
  show List.take (n - (a.length + 1)) (List.drop (a.length + 1) (a ++ 46 :: b)) = b
  simp at hn
  rw [show a ++ 46 :: b = (a ++ [46]) ++ b by simp, List.drop_append_of_le_length (by simp), List.drop_of_length_le (by simp), List.nil_append, List.take_of_length_le (by omega)]

set_option maxRecDepth 100000 in
set_option maxHeartbeats 1000000 in
/-- strings.Cut at the first dot. -/
theorem slcut_any (a b : List UInt8) (w : World) (ha : a.count 46 = 0) (hl : (a ++ 46 :: b).length ≤ 1073741824) : Calls Tryd.prog 39 #[.string ⟨(a ++ 46 :: b).toArray⟩, .string ⟨#[46]⟩] w fun e w' => e = .returned (.tuple #[.string ⟨a.toArray⟩, .string ⟨b.toArray⟩, .bool true]) ∧ ∃ q, w' = w.drewN q := by
  have C := sindex_any a b w ha
  have hn : a.length + 1 ≤ (a ++ 46 :: b).length := by simp
  have HE1 : Hid ((⟨(a ++ 46 :: b).toArray⟩ : ByteArray).extract 0 a.length = ⟨a.toArray⟩) := ext_take a b
  have HE2 : Hid ((⟨(a ++ 46 :: b).toArray⟩ : ByteArray).extract (a.length + 1) (a ++ 46 :: b).length = ⟨b.toArray⟩) := ext_drop a b _ (Nat.le_refl _)
  generalize a ++ 46 :: b = t at *
  generalize a.length = k at *
  clear ha
  have c1 : decide ((k : Int) ≥ 0) = true := decide_eq_true (by omega)
  go_enter Tryd.func39, Tryd.ntmps39
  go_wp2_with fail
  refine C.mono ?_
  clear C
  rintro e w1 ⟨rfl, rfl⟩
  go_wp2
  go_quiet (fail)
  go_wp2
  go_ret3
  refine ⟨?_, _, rfl⟩
  show Ending.returned (.tuple #[.string ((⟨t.toArray⟩ : ByteArray).extract 0 k), .string ((⟨t.toArray⟩ : ByteArray).extract (k + 1) t.length), .bool true]) = _
  rw [HE1.out, HE2.out]

def tnV (k l : List UInt8) : Value := .agg #[.int .i64 5, .string ⟨k.toArray⟩, .string ⟨l.toArray⟩, .bool false, .int .i64 0, .int .i64 0]
theorem results_nd {fn : Func} {p : Tmp} (h : fn.results = #[.cell p 37]) (tmps : Array Value) (w : World) (b : Nat) (n : Nd) (hp : tmps.getD p undef = .pointer (some ⟨b, 0, none⟩)) (hb : Bl 37 w b (nC n)) :
    (results fn tmps).run Tryd.prog w = .ok (.agg (nC n).toArray) w := by
  have hr : (loadVar 37 ⟨b, 0, none⟩).run Tryd.prog w = .ok (.agg (nC n).toArray) w := by
    refine run_loadVar_mid w b 0 37 (nC n) _ ?_ Tryd.underlying37 rfl (by kernel_rfl)
    intro j v hv
    obtain ⟨hj, e⟩ := List.getElem?_eq_some_iff.1 hv
    rw [Nat.zero_add, ← e]
    exact hb.cell j hj
  rw [results_cell h, hp]
  unfold asAddr
  simp only [Sem.run_pure, Result.andThen_ok]
  exact hr

set_option maxRecDepth 100000 in
theorem textNode_any (k l : List UInt8) (w : World) : Calls Tryd.prog 18 #[.string ⟨k.toArray⟩, .string ⟨l.toArray⟩] w fun e w' => e = .returned (tnV k l) ∧ Below w.heap.size w w' := by
  have HB : Hid (Below w.heap.size w (w.alloc (.cells (nC ⟨5, k, l, false, 0, 0⟩).toArray 37))) := alloc_below _ _
  have HBl : Hid (Bl 37 (w.alloc (.cells (nC ⟨5, k, l, false, 0, 0⟩).toArray 37)) w.heap.size (nC ⟨5, k, l, false, 0, 0⟩)) := alloc_bl _ _ _
  go_enter Tryd.func18, Tryd.ntmps18
  go_wp2
  (try simp only [Exit.inBlock, Exit.then])
  exact bodyPost_ret (v := tnV k l) (results_nd rfl _ _ w.heap.size ⟨5, k, l, false, 0, 0⟩ rfl HBl.out) rfl ⟨rfl, HB.out⟩


set_option maxRecDepth 100000 in
theorem scut_any (a b : List UInt8) (w : World) (ha : a.count 46 = 0) (hl : (a ++ 46 :: b).length ≤ 1073741824) : Calls Tryd.prog 25 #[.string ⟨(a ++ 46 :: b).toArray⟩, .string ⟨#[46]⟩] w fun e w' => e = .returned (.tuple #[.string ⟨a.toArray⟩, .string ⟨b.toArray⟩, .bool true]) ∧ ∃ q, w' = w.drewN q := by
  have C := slcut_any a b w ha hl
  generalize a ++ 46 :: b = t at *
  go_enter Tryd.func25, Tryd.ntmps25
  go_wp2_with fail
  refine C.mono ?_
  clear C
  rintro e w1 ⟨rfl, q, rfl⟩
  go_wp2
  go_ret3
  exact ⟨rfl, q, rfl⟩
set_option maxRecDepth 100000 in
set_option maxHeartbeats 4000000 in
theorem cut_any (t : List UInt8) (w : World) (hU : ∀ wq, Below w.heap.size w wq → U8 wq) (hl : t.length ≤ 1073741824) :
    Calls Tryd.prog 17 #[.string ⟨t.toArray⟩] w fun e w' => e = .returned (.tuple #[.string ⟨(cutF t).1.1.toArray⟩, .string ⟨(cutF t).1.2.1.toArray⟩, .string ⟨(cutF t).1.2.2.toArray⟩, .bool (cutF t).2]) ∧ Below w.heap.size w w' := by
  have CC := count_any t w
  have CV := validString_any t w hl (hU w (Below.refl _ _))
  by_cases h2 : t.count 46 = 2
  · have q2 : ((t.count 46 : Int) != 2) = false := by simp; omega
    cases hv : Lib.validD t with
    | true =>
      obtain ⟨a, b, c, rfl, ha, hb, hc⟩ := three h2
      obtain ⟨e1, e2, e3⟩ := cut_parts (c := c) ha hb
      have HF : Hid (cutF (a ++ 46 :: (b ++ 46 :: c)) = ((a, b, c), true)) := by
        show _ = _
        unfold cutF okT2
        rw [hv, decide_eq_true h2, if_pos (by rfl), e1, e2, e3]
      have HC1 : Hid (∀ wq, Calls Tryd.prog 25 #[.string ⟨(a ++ 46 :: (b ++ 46 :: c)).toArray⟩, .string ⟨#[46]⟩] wq fun e w' => e = .returned (.tuple #[.string ⟨a.toArray⟩, .string ⟨(b ++ 46 :: c).toArray⟩, .bool true]) ∧ ∃ q, w' = wq.drewN q) := fun wq => scut_any a (b ++ 46 :: c) wq ha hl
      have HC2 : Hid (∀ wq, Calls Tryd.prog 25 #[.string ⟨(b ++ 46 :: c).toArray⟩, .string ⟨#[46]⟩] wq fun e w' => e = .returned (.tuple #[.string ⟨b.toArray⟩, .string ⟨c.toArray⟩, .bool true]) ∧ ∃ q, w' = wq.drewN q) := fun wq => scut_any b c wq hb (by simp at hl ⊢; omega)
      rw [hv] at CV
      generalize b ++ 46 :: c = r at *
      generalize a ++ 46 :: r = T at *
      generalize T.count 46 = n at *
      clear e1 e2 e3 ha hb hc hv hU
      go_enter Tryd.func17, Tryd.ntmps17
      go_wp2_with fail
      refine CC.mono ?_
      clear CC
      rintro e w1 ⟨rfl, rfl⟩
      go_wp2_with fail
      refine CV.mono ?_
      clear CV
      rintro e w2 ⟨rfl, hB⟩
      have HB : Hid (Below w1.heap.size w1 w2) := hB
      have C1 := HC1.out w2
      clear hB HC1
      go_wp2_with fail
      refine C1.mono ?_
      clear C1
      rintro e w3 ⟨rfl, q, rfl⟩
      have C2 := HC2.out (w2.drewN q)
      clear HC2
      go_wp2_with fail
      refine C2.mono ?_
      clear C2
      rintro e w4 ⟨rfl, q', rfl⟩
      go_wp2
      ((try simp only [Exit.inBlock, Exit.then]); refine bodyPost_ret (results_tmp4 rfl _ _ _) rfl ?_)
      rw [HF.out]
      exact ⟨rfl, below_drewN HB.out (q + q')⟩
    | false =>
      have HF : Hid (cutF t = (([], [], []), false)) := by
        show _ = _
        unfold cutF okT2
        rw [hv, Bool.and_false, if_neg (by decide)]
      rw [hv] at CV
      generalize t.count 46 = n at *
      clear hv hU
      go_enter Tryd.func17, Tryd.ntmps17
      go_wp2_with fail
      refine CC.mono ?_
      clear CC
      rintro e w1 ⟨rfl, rfl⟩
      go_wp2_with fail
      refine CV.mono ?_
      clear CV
      rintro e w2 ⟨rfl, hB⟩
      have HB : Hid (Below w1.heap.size w1 w2) := hB
      clear hB
      go_wp2
      ((try simp only [Exit.inBlock, Exit.then]); refine bodyPost_ret (results_tmp4 rfl _ _ _) rfl ?_)
      rw [HF.out]
      exact ⟨rfl, HB.out⟩
  · have q2 : ((t.count 46 : Int) != 2) = true := by simp; omega
    have HF : Hid (cutF t = (([], [], []), false)) := by
      show _ = _
      unfold cutF okT2
      rw [decide_eq_false h2, Bool.false_and, if_neg (by decide)]
    generalize t.count 46 = n at *
    clear hU CV
    go_enter Tryd.func17, Tryd.ntmps17
    go_wp2_with fail
    refine CC.mono ?_
    clear CC
    rintro e w1 ⟨rfl, rfl⟩
    go_wp2
    ((try simp only [Exit.inBlock, Exit.then]); refine bodyPost_ret (results_tmp4 rfl _ _ _) rfl ?_)
    rw [HF.out]
    exact ⟨rfl, Below.refl _ _⟩

theorem three_nr (w : World) (M : List Nd) (cs : Array Value) (hcs : cs = (nCs M).toArray) (m : Nat) (hm : M.length = m) : NR (w.alloc (.cells cs 37)) (.slice (some ⟨w.heap.size, 0, none⟩) m m) M (some ⟨w.heap.size, 0, none⟩) m := by
  subst hcs hm
  have hbl : Bl 37 (w.alloc (.cells (nCs M).toArray 37)) w.heap.size (nCs M) := alloc_bl _ _ _
  refine ⟨rfl, Nat.le_refl _, .inr ⟨w.heap.size, 0, rfl, hbl.lt, fun j u hu => ?_⟩⟩
  rw [Nat.zero_add]
  obtain ⟨hj, e⟩ := List.getElem?_eq_some_iff.1 hu
  rw [← e]
  exact hbl.cell j hj

set_option maxRecDepth 100000 in
set_option maxHeartbeats 16000000 in
/-- The value of tokens. -/
theorem general_any (ts : List (List UInt8)) (ao : Option Addr) (cap : Nat) (w : World) (h : TR w (.slice ao ts.length cap) ts ao cap) (hU : ∀ wq, Below w.heap.size w wq → U8 wq) (hB : ∀ t ∈ ts, t.length ≤ 1073741824) (hl : ts.length ≤ 1000000000) :
    Calls Tryd.prog 9 #[.slice ao ts.length cap] w fun e w' => (∃ v, e = .returned (.tuple #[v, .bool (goodG ts)]) ∧ (goodG ts = true → NO w.heap.size w' v (gnF ts))) ∧ Below w.heap.size w w' := by
  have HG : Hid (goodG ts = (decide (0 < ts.length) && decide (ts.length ≤ 16) && ts.all (okG2 (payF ts)))) := rfl
  by_cases h0 : 0 < ts.length
  case neg =>
    have q0 : ((ts.length : Int) == 0) = true := beq_iff_eq.2 (by omega)
    have HX : Hid (goodG ts = false) := by show _ = _; rw [HG.out, decide_eq_false h0]; rfl
    clear h hU hB HG
    generalize ts.length = n at *
    go_enter Tryd.func9, Tryd.ntmps9
    go_wp2
    go_ret2
    rw [HX.out]
    exact ⟨⟨_, rfl, fun h => by cases h⟩, Below.refl _ _⟩
  have q0 : ((ts.length : Int) == 0) = false := beq_eq_false_iff_ne.2 (by omega)
  by_cases h16 : 16 < ts.length
  case pos =>
    have q1 : decide ((ts.length : Int) > 16) = true := decide_eq_true (by omega)
    have HX : Hid (goodG ts = false) := by show _ = _; rw [HG.out, decide_eq_false (show ¬ ts.length ≤ 16 by omega), Bool.and_false]; rfl
    clear h hU hB HG
    generalize ts.length = n at *
    go_enter Tryd.func9, Tryd.ntmps9
    go_wp2
    go_ret2
    rw [HX.out]
    exact ⟨⟨_, rfl, fun h => by cases h⟩, Below.refl _ _⟩
  have q1 : decide ((ts.length : Int) > 16) = false := decide_eq_false (by omega)
  have HG2 : Hid (goodG ts = ts.all (okG2 (payF ts))) := by show _ = _; rw [HG.out, decide_eq_true h0, decide_eq_true (show ts.length ≤ 16 by omega)]; rfl
  have HTR : Hid (∀ wx, Below w.heap.size w wx → TR wx (.slice ao ts.length cap) ts ao cap) := fun wx hx => h.below hx (Nat.le_refl _)
  have HBt : Hid (∀ k, k < ts.length → (ts.getD k []).length ≤ 1073741824) := fun k hk => hB _ (by rw [List.getD_eq_getElem?_getD, List.getElem?_eq_getElem hk]; exact List.getElem_mem hk)
  have HC : Hid (∀ t wx, t.length ≤ 1073741824 → Below w.heap.size w wx → Calls Tryd.prog 17 #[.string ⟨t.toArray⟩] wx fun e w' => e = .returned (.tuple #[.string ⟨(cutF t).1.1.toArray⟩, .string ⟨(cutF t).1.2.1.toArray⟩, .string ⟨(cutF t).1.2.2.toArray⟩, .bool (cutF t).2]) ∧ Below wx.heap.size wx w') := fun t wx ht hx => cut_any t wx (fun wq hq => hU wq (hx.trans (hq.mono hx.size))) ht
  obtain ⟨g, off, rfl, c0⟩ := h.at h0
  have hl0 : (0 : Int) < (ts.length : Int) := by omega
  rw [Nat.add_zero] at c0
  obtain ⟨t0, ht0⟩ : ∃ t, ts.getD 0 [] = t := ⟨_, rfl⟩
  rw [ht0] at c0
  have C0 := HC.out t0 w (by rw [← ht0]; exact HBt.out 0 h0) (Below.refl _ _)
  have HP : Hid (payF ts = (cutF t0).1.2.1) := by show _ = _; unfold payF; rw [ht0]
  have HGF : Hid (gnF ts = gHd (payF ts) ts.length ++ ts.flatMap gnN) := rfl
  have HGT : Hid (∀ k, k < ts.length → (ts.take (k + 1)).flatMap gnN = (ts.take k).flatMap gnN ++ gnN (ts.getD k [])) := fun k hk => gn_take hk
  have HAD : Hid (∀ k, k < ts.length → (ts.drop k).all (okG2 (payF ts)) = (okG2 (payF ts) (ts.getD k []) && (ts.drop (k + 1)).all (okG2 (payF ts)))) := fun k hk => all_dropT hk
  obtain ⟨P, hP⟩ : ∃ p, payF ts = p := ⟨_, rfl⟩
  rw [hP] at HP HGF HAD HG2
  obtain ⟨⟨⟨x1, x2, x3⟩, b⟩, hcf⟩ : ∃ c, cutF t0 = c := ⟨_, rfl⟩
  rw [hcf] at C0 HP
  dsimp only at C0 HP
  obtain rfl : P = x2 := HP.out
  clear h hU hB ht0 hcf hP HP HG
  go_enter Tryd.func9, Tryd.ntmps9
  go_wp2_with fail
  refine C0.mono ?_
  clear C0 c0
  rintro e w1 ⟨rfl, hB1⟩
  have CT := textNode_any kPay P w1
  unfold tnV at CT
  have HB1 : Hid (Below w.heap.size w w1) := hB1
  clear hB1
  go_wp2_with fail
  refine CT.mono ?_
  clear CT
  rintro e w2 ⟨rfl, hB2⟩
  obtain ⟨w3, hw3⟩ : ∃ x, w2.alloc (.cells #[.int .i64 7, .string ⟨#[]⟩, .string ⟨#[]⟩, .bool false, .int .i64 0, .int .i64 2, .int .i64 5, .string ⟨#[112, 97, 121, 108, 111, 97, 100]⟩, .string ⟨P.toArray⟩, .bool false, .int .i64 0, .int .i64 0, .int .i64 6, .string ⟨#[115, 105, 103, 110, 97, 116, 117, 114, 101, 115]⟩, .string ⟨#[]⟩, .bool false, .int .i64 0, .int .i64 (ts.length : Int)] 37) = x := ⟨_, rfl⟩
  have HN3 : Hid (NO w.heap.size w3 (.slice (some ⟨w2.heap.size, 0, none⟩) 3 3) (gHd P ts.length)) := by
    rw [← hw3]
    exact World.ownsRow_lit w2 #[.int .i64 7, .string ⟨#[]⟩, .string ⟨#[]⟩, .bool false, .int .i64 0, .int .i64 2, .int .i64 5, .string ⟨#[112, 97, 121, 108, 111, 97, 100]⟩, .string ⟨P.toArray⟩, .bool false, .int .i64 0, .int .i64 0, .int .i64 6, .string ⟨#[115, 105, 103, 110, 97, 116, 117, 114, 101, 115]⟩, .string ⟨#[]⟩, .bool false, .int .i64 0, .int .i64 (ts.length : Int)] 3 (Nat.le_trans HB1.out.size hB2.size) (by decide) rfl
  have HB3 : Hid (Below w.heap.size w w3) := by
    rw [← hw3]
    have h3 := HB1.out.trans (hB2.mono HB1.out.size)
    exact h3.trans ((alloc_below _ _).mono h3.size)
  have HW3 : Hid (w2.alloc (.cells #[.int .i64 7, .string ⟨#[]⟩, .string ⟨#[]⟩, .bool false, .int .i64 0, .int .i64 2, .int .i64 5, .string ⟨#[112, 97, 121, 108, 111, 97, 100]⟩, .string ⟨P.toArray⟩, .bool false, .int .i64 0, .int .i64 0, .int .i64 6, .string ⟨#[115, 105, 103, 110, 97, 116, 117, 114, 101, 115]⟩, .string ⟨#[]⟩, .bool false, .int .i64 0, .int .i64 (ts.length : Int)] 37) = w3) := hw3
  clear hw3 hB2 HB1
  go_wp2
  rw [HW3.out]
  clear HW3
  go_loopw [41, 8] (fun s41 s8 wx => ∃ k : Nat, s41 = .int .i64 k ∧ k ≤ ts.length ∧ NO w.heap.size wx s8 (gHd P ts.length ++ (ts.take k).flatMap gnN) ∧ Below w.heap.size w wx ∧ (ts.drop k).all (okG2 P) = ts.all (okG2 P)) (fun x _ _ => ts.length - (intOf x).toNat)
  case atStart => exact ⟨0, rfl, Nat.zero_le _, HN3.out, HB3.out, rfl⟩
  case round =>
    obtain ⟨k, rfl, hk, hn, hb, hd⟩ := hrel
    have HNr : Hid (NO w.heap.size wr _ (gHd P ts.length ++ (ts.take k).flatMap gnN)) := hn
    have HBr : Hid (Below w.heap.size w wr) := hb
    have hlen : (gHd P ts.length ++ (ts.take k).flatMap gnN).length ≤ 60 := by rw [List.length_append, gn_len, List.length_take_of_le hk]; show 3 + 3 * k ≤ 60; omega
    obtain ⟨va, vc, rfl, _, _⟩ := own_slice hn
    by_cases hlt : k < ts.length
    · have q2 : decide ((k : Int) < (ts.length : Int)) = true := decide_eq_true (by omega)
      obtain ⟨g', off', e, ck⟩ := (HTR.out wr hb).at hlt
      cases e
      have hgt := HGT.out k hlt
      rw [HAD.out k hlt] at hd
      have htl := HBt.out k hlt
      generalize ts.getD k [] = t at *
      have C1 := HC.out t wr htl hb
      have ho : okG2 P t = (okT2 t && decide (hdD (tlD t) = P)) := rfl
      have hcf : cutF t = if okT2 t = true then ((hdD t, hdD (tlD t), tlD (tlD t)), true) else (([], [], []), false) := rfl
      have HGN : Hid (gnN t = [⟨7, [], [], false, 0, 2⟩, ⟨5, kPro, hdD t, false, 0, 0⟩, ⟨5, kSig, tlD (tlD t), false, 0, 0⟩]) := rfl
      have HGT2 : Hid ((ts.take (k + 1)).flatMap gnN = (ts.take k).flatMap gnN ++ gnN t) := hgt
      have HD : Hid ((okG2 P t && (ts.drop (k + 1)).all (okG2 P)) = ts.all (okG2 P)) := hd
      generalize hdD t = xa at *
      generalize hdD (tlD t) = xb at *
      generalize tlD (tlD t) = xc at *
      have hbw := hb
      clear hn hb hd hgt
      cases hok : okT2 t with
      | false =>
        rw [hok, if_neg (by decide)] at hcf
        rw [hok] at ho
        rw [hcf] at C1
        dsimp only at C1
        have HX : Hid (goodG ts = false) := by show _ = _; rw [HG2.out, ← HD.out, ho]; rfl
        clear hcf ho hok HD HG2
        go_wp2_with fail
        refine C1.mono ?_
        clear C1
        rintro e w4 ⟨rfl, hB4⟩
        have HBz : Hid (Below w.heap.size w w4) := HBr.out.trans (hB4.mono HBr.out.size)
        clear hB4
        go_wp2
        go_ret2
        rw [HX.out]
        exact ⟨⟨_, rfl, fun h => by cases h⟩, HBz.out⟩
      | true =>
        rw [hok, if_pos rfl] at hcf
        rw [hok, Bool.true_and] at ho
        rw [hcf] at C1
        dsimp only at C1
        clear hcf hok
        go_wp2_with fail
        refine C1.mono ?_
        clear C1
        rintro e w4 ⟨rfl, hB4⟩
        have hb4 : Below w.heap.size w w4 := HBr.out.trans (hB4.mono HBr.out.size)
        have HBz : Hid (Below w.heap.size w w4) := hb4
        have HN4 : Hid (NO w.heap.size w4 (.slice va (gHd P ts.length ++ (ts.take k).flatMap gnN).length vc) (gHd P ts.length ++ (ts.take k).flatMap gnN)) := own_below HNr.out hB4 (Nat.le_refl _)
        clear hB4 HNr hb4
        by_cases hm : xb = P
        case neg =>
          have qm : (xb != P) = true := by simpa using hm
          have qm2 : (xb == P) = false := by simpa using hm
          have HX : Hid (goodG ts = false) := by show _ = _; rw [HG2.out, ← HD.out, ho, decide_eq_false hm]; rfl
          clear ho hm HD HG2
          go_wp2
          go_ret2
          rw [HX.out]
          exact ⟨⟨_, rfl, fun h => by cases h⟩, HBz.out⟩
        have qm : (xb != P) = false := by simpa using hm
        have qm2 : (xb == P) = true := by simpa using hm
        have HD2 : Hid ((ts.drop (k + 1)).all (okG2 P) = ts.all (okG2 P)) := by show _ = _; rw [← HD.out, ho, decide_eq_true hm]; rfl
        have CT := textNode_any kPro xa w4
        unfold tnV at CT
        have HCT2 : Hid (∀ wq, Calls Tryd.prog 18 #[.string ⟨kSig.toArray⟩, .string ⟨xc.toArray⟩] wq fun e w' => e = .returned (tnV kSig xc) ∧ Below wq.heap.size wq w') := fun wq => textNode_any kSig xc wq
        unfold tnV at HCT2
        generalize hY : gHd P ts.length ++ (ts.take k).flatMap gnN = Y at *
        have HY : Hid (gHd P ts.length ++ (ts.take k).flatMap gnN = Y) := hY
        clear ho HD hm hY
        go_wp2_with fail
        refine CT.mono ?_
        clear CT
        rintro e w5 ⟨rfl, hB5⟩
        have HB5 : Hid (Below w.heap.size w w5) := HBz.out.trans (hB5.mono HBz.out.size)
        have HN5 : Hid (NO w.heap.size w5 (.slice va Y.length vc) Y) := own_below HN4.out hB5 (Nat.le_refl _)
        have CT := HCT2.out w5
        clear hB5 HN4 HBz HCT2
        go_wp2_with fail
        refine CT.mono ?_
        clear CT
        rintro e w6 ⟨rfl, hB6⟩
        have hb6 : Below w.heap.size w w6 := HB5.out.trans (hB6.mono HB5.out.size)
        have hn6 : NO w.heap.size w6 (.slice va Y.length vc) Y := own_below HN5.out hB6 (Nat.le_refl _)
        have hR := three_nr w6 (gnN t) #[.int .i64 7, .string ⟨#[]⟩, .string ⟨#[]⟩, .bool false, .int .i64 0, .int .i64 2, .int .i64 5, .string ⟨#[112, 114, 111, 116, 101, 99, 116, 101, 100]⟩, .string ⟨xa.toArray⟩, .bool false, .int .i64 0, .int .i64 0, .int .i64 5, .string ⟨#[115, 105, 103, 110, 97, 116, 117, 114, 101]⟩, .string ⟨xc.toArray⟩, .bool false, .int .i64 0, .int .i64 0] (by rw [HGN.out]; rfl) 3 (by rw [HGN.out]; rfl)
        have hgl : (gnN t).length = 3 := by rw [HGN.out]; rfl
        have hn7 : NO w.heap.size (w6.alloc (.cells #[.int .i64 7, .string ⟨#[]⟩, .string ⟨#[]⟩, .bool false, .int .i64 0, .int .i64 2, .int .i64 5, .string ⟨#[112, 114, 111, 116, 101, 99, 116, 101, 100]⟩, .string ⟨xa.toArray⟩, .bool false, .int .i64 0, .int .i64 0, .int .i64 5, .string ⟨#[115, 105, 103, 110, 97, 116, 117, 114, 101]⟩, .string ⟨xc.toArray⟩, .bool false, .int .i64 0, .int .i64 0] 37)) (.slice va Y.length vc) Y := World.ownsRow.alloc hn6 _
        have hsz : w.heap.size ≤ (w6.alloc (.cells #[.int .i64 7, .string ⟨#[]⟩, .string ⟨#[]⟩, .bool false, .int .i64 0, .int .i64 2, .int .i64 5, .string ⟨#[112, 114, 111, 116, 101, 99, 116, 101, 100]⟩, .string ⟨xa.toArray⟩, .bool false, .int .i64 0, .int .i64 0, .int .i64 5, .string ⟨#[115, 105, 103, 110, 97, 116, 117, 114, 101]⟩, .string ⟨xc.toArray⟩, .bool false, .int .i64 0, .int .i64 0] 37)).heap.size := by rw [alloc_size]; have := hb6.size; omega
        have hB7 : Below w.heap.size w (w6.alloc (.cells #[.int .i64 7, .string ⟨#[]⟩, .string ⟨#[]⟩, .bool false, .int .i64 0, .int .i64 2, .int .i64 5, .string ⟨#[112, 114, 111, 116, 101, 99, 116, 101, 100]⟩, .string ⟨xa.toArray⟩, .bool false, .int .i64 0, .int .i64 0, .int .i64 5, .string ⟨#[115, 105, 103, 110, 97, 116, 117, 114, 101]⟩, .string ⟨xc.toArray⟩, .bool false, .int .i64 0, .int .i64 0] 37)) := hb6.trans ((alloc_below _ _).mono hb6.size)
        have HGL : Hid ((gnN t).length = 3) := hgl
        clear hB6 HN5 HB5 hgl
        go_wp2_with (at_builtin; refine append_nds (wr := w6.alloc (.cells #[.int .i64 7, .string ⟨#[]⟩, .string ⟨#[]⟩, .bool false, .int .i64 0, .int .i64 2, .int .i64 5, .string ⟨#[112, 114, 111, 116, 101, 99, 116, 101, 100]⟩, .string ⟨xa.toArray⟩, .bool false, .int .i64 0, .int .i64 0, .int .i64 5, .string ⟨#[115, 105, 103, 110, 97, 116, 117, 114, 101]⟩, .string ⟨xc.toArray⟩, .bool false, .int .i64 0, .int .i64 0] 37)) rfl (.tmp 59) (.tmp 65) rfl w.heap.size (.slice va Y.length vc) Y rfl hn7 (some ⟨w6.heap.size, 0, none⟩) 3 (gnN t) (by rw [HGL.out]; rfl) (by rw [HGL.out]; exact hR) (fun h => by cases h) (by rw [HGL.out]; omega) hsz ?_; intro v8 w8 ho8 hg8; have HN8 : Hid (NO w.heap.size w8 v8 (gHd P ts.length ++ (ts.take (k + 1)).flatMap gnN)) := (by rw [HGT2.out, ← List.append_assoc, HY.out]; exact ho8); have HB8 : Hid (Below w.heap.size w w8) := hB7.grown hg8 hsz (own_block hn7); clear ho8 hg8 hn7 hB7 hsz hR)
        go_roundw
        case rel => exact ⟨k + 1, by go_num, by omega, HN8.out, HB8.out, HD2.out⟩
        case measure => simp [intOf]; omega
    · have q2 : decide ((k : Int) < (ts.length : Int)) = false := decide_eq_false (by omega)
      have HX : Hid (goodG ts = true) := by show _ = _; rw [HG2.out, ← hd, List.drop_eq_nil_of_le (by omega)]; rfl
      have HY : Hid (NO w.heap.size wr (.slice va (gHd P ts.length ++ (ts.take k).flatMap gnN).length vc) (gnF ts)) := by
        have := HNr.out
        rw [HGF.out]
        rwa [List.take_of_length_le (show ts.length ≤ k by omega)] at this ⊢
      generalize (gHd P ts.length ++ (ts.take k).flatMap gnN).length = nn at *
      clear hn hb hd HNr HG2
      go_wp2
      go_ret2
      rw [HX.out]
      exact ⟨⟨_, rfl, fun _ => HY.out⟩, HBr.out⟩

set_option maxRecDepth 100000 in
set_option maxHeartbeats 8000000 in
/-- General. -/
theorem gen_any (ts : List (List UInt8)) (ao : Option Addr) (cap : Nat) (w : World) (h : TR w (.slice ao ts.length cap) ts ao cap) (hG : GL w.heap.size w) (hB : ∀ t ∈ ts, t.length ≤ 1073741824) (hl : ts.length ≤ 1000000000) :
    Calls Tryd.prog 5 #[.slice ao ts.length cap] w fun e w' => e = .returned (.tuple #[.string ⟨(genF ts).1.toArray⟩, .int .i64 ((genF ts).2 : Int)]) ∧ Below w.heap.size w w' := by
  have C1 := general_any ts ao cap w h (fun wq hq => (hG.below hq).u8) hB hl
  have HGq : Hid (∀ wq, Below w.heap.size w wq → GL wq.heap.size wq) := fun wq hq => (hG.below hq).up hq.size
  have HF : Hid (genF ts = if goodG ts = true then printF (gnF ts) else ([], 140)) := rfl
  have htb : TB (gnF ts) := tb_of (gn_bd hB (by omega)) (Nat.le_refl _)
  have hgl : goodG ts = true → (gnF ts).length ≤ 1000000000 := fun h1 => by
    unfold goodG at h1
    simp only [Bool.and_eq_true, decide_eq_true_eq] at h1
    rw [gnF_len]
    omega
  have HP : Hid (goodG ts = true → ∀ v ao2 cap2 wq, Below w.heap.size w wq → NR wq v (gnF ts) ao2 cap2 → Calls Tryd.prog 10 #[v] wq fun e w' => e = .returned (.tuple #[.string ⟨(printF (gnF ts)).1.toArray⟩, .int .i64 ((printF (gnF ts)).2 : Int)]) ∧ Below wq.heap.size wq w') := fun h1 v ao2 cap2 wq hq hn => print_any v (gnF ts) ao2 cap2 wq hn (HGq.out wq hq) htb (hgl h1)
  generalize gnF ts = V at *
  clear h hG hB htb hgl HGq
  cases hgood : goodG ts with
  | false =>
    rw [hgood] at C1
    have HX : Hid (genF ts = ([], 140)) := by show _ = _; rw [HF.out, hgood]; rfl
    clear HP HF hgood
    go_enter Tryd.func5, Tryd.ntmps5
    go_wp2_with fail
    refine C1.mono ?_
    clear C1
    rintro e w1 ⟨⟨v, rfl, _⟩, hB1⟩
    have HB1 : Hid (Below w.heap.size w w1) := hB1
    clear hB1
    go_wp2
    go_ret2
    rw [HX.out]
    exact ⟨rfl, HB1.out⟩
  | true =>
    rw [hgood] at C1
    have HX : Hid (genF ts = printF V) := by show _ = _; rw [HF.out, hgood]; rfl
    have HP2 := HP.out hgood
    have HP3 : Hid (∀ v ao2 cap2 wq, Below w.heap.size w wq → NR wq v V ao2 cap2 → Calls Tryd.prog 10 #[v] wq fun e w' => e = .returned (.tuple #[.string ⟨(printF V).1.toArray⟩, .int .i64 ((printF V).2 : Int)]) ∧ Below wq.heap.size wq w') := HP2
    generalize printF V = pv at *
    obtain ⟨px, pe⟩ := pv
    dsimp only at HP3
    clear HP HF hgood HP2
    go_enter Tryd.func5, Tryd.ntmps5
    go_wp2_with fail
    refine C1.mono ?_
    clear C1
    rintro e w1 ⟨⟨v, rfl, hn⟩, hB1⟩
    have HB1 : Hid (Below w.heap.size w w1) := hB1
    obtain ⟨a1, c1, hr⟩ := (hn (by trivial)).nr
    have CP := HP3.out v a1 c1 w1 hB1 hr
    clear hB1 hn hr HP3
    go_wp2_with fail
    refine CP.mono ?_
    clear CP
    rintro e w2 ⟨rfl, hB2⟩
    have HB2 : Hid (Below w.heap.size w w2) := HB1.out.trans (hB2.mono HB1.out.size)
    clear hB2
    go_wp2
    go_ret2
    rw [HX.out]
    exact ⟨rfl, HB2.out⟩

end Go.Proofs.YtapljedegjiliaaDoor

namespace Go.Proofs.YtapljedegjiliaaDoor
open Go.RowKit Go.Shelf

theorem count_takeO {t : List UInt8} {k : Nat} (h : k < t.length) : (t.take (k + 1)).count 46 = (t.take k).count 46 + if t[k] = 46 then 1 else 0 := by
  rw [List.take_succ_eq_append_getElem h, List.count_append, List.count_singleton]
  congr 1
  by_cases hx : t[k] = 46
  · rw [if_pos hx, if_pos (by simpa using hx)]
  · rw [if_neg hx, if_neg (by simpa using hx)]
set_option maxRecDepth 100000 in
set_option maxHeartbeats 8000000 in
theorem rdotsO_any (t : List UInt8) (w : World) (hl : t.length ≤ 1000000000000) : Calls Tryd.prog 11 #[.string ⟨t.toArray⟩] w fun e w' => e = .returned (.int .i64 (t.count 46 : Nat)) ∧ w' = w := by
  have HS : Hid (∀ k (h : k < t.length), (t.take (k + 1)).count 46 = (t.take k).count 46 + if t[k] = 46 then 1 else 0) := fun k h => count_takeO h
  have HL : Hid (∀ k, (t.take k).count 46 ≤ t.length) := fun k => by
    have h1 := List.count_le_length (a := (46 : UInt8)) (l := t.take k)
    rw [List.length_take] at h1
    omega
  go_enter Tryd.func11, Tryd.ntmps11
  go_wp2
  go_loopw [4, 3] (fun s4 s3 wx => ∃ k : Nat, s4 = .int .i64 k ∧ k ≤ t.length ∧ s3 = .int .i64 ((t.take k).count 46 : Nat) ∧ wx = w) (fun x _ _ => t.length - (intOf x).toNat)
  case atStart => exact ⟨0, rfl, Nat.zero_le _, rfl, rfl⟩
  case round =>
    obtain ⟨k, rfl, hk, rfl, rfl⟩ := hrel
    have hln := HL.out k
    by_cases hlt : k < t.length
    · have d1 : decide ((k : Int) < (t.length : Int)) = true := decide_eq_true (by omega)
      have hs := HS.out k hlt
      obtain ⟨x, Hx⟩ : ∃ x, Hid (t[k] = x) := ⟨t[k], rfl⟩
      have gx : (⟨t.toArray⟩ : ByteArray)[k]'(by show k < t.toArray.size; simpa using hlt) = x := by rw [← Hx.out]; simp [ByteArray.getElem_eq_getElem_data]
      rw [Hx.out] at hs
      generalize (t.take k).count 46 = n at *
      by_cases hx : x = 46
      · subst hx
        rw [if_pos rfl] at hs
        have HN : Hid ((t.take (k + 1)).count 46 = n + 1) := hs
        clear hs Hx
        go_wp2
        go_roundw
        case rel => exact ⟨k + 1, by go_num, by omega, by rw [HN.out]; go_num, trivial⟩
        case measure => simp [intOf]; omega
      · have hx2 : ((x.toNat : Int) == 46) = false := by
          rw [beq_eq_false_iff_ne]
          intro e
          exact hx (UInt8.toNat_inj.1 (by have : (46 : UInt8).toNat = 46 := rfl; omega))
        rw [if_neg hx] at hs
        have HN : Hid ((t.take (k + 1)).count 46 = n) := hs
        clear hs Hx hx
        go_wp2
        go_roundw
        case rel => exact ⟨k + 1, by go_num, by omega, by rw [HN.out], trivial⟩
        case measure => simp [intOf]; omega
    · have d1 : decide ((k : Int) < (t.length : Int)) = false := decide_eq_false (by omega)
      have hkt : t.take k = t := List.take_of_length_le (by omega)
      rw [hkt]
      clear HS HL hln hkt
      go_wp2
      go_ret
      exact ⟨rfl, rfl⟩

set_option maxRecDepth 100000 in
theorem rnode_any (k l : List UInt8) (w : World) : Calls Tryd.prog 13 #[.string ⟨k.toArray⟩, .string ⟨l.toArray⟩] w fun e w' => e = .returned (tnV k l) ∧ Below w.heap.size w w' := by
  have HB : Hid (Below w.heap.size w (w.alloc (.cells (nC ⟨5, k, l, false, 0, 0⟩).toArray 37))) := alloc_below _ _
  have HBl : Hid (Bl 37 (w.alloc (.cells (nC ⟨5, k, l, false, 0, 0⟩).toArray 37)) w.heap.size (nC ⟨5, k, l, false, 0, 0⟩)) := alloc_bl _ _ _
  go_enter Tryd.func13, Tryd.ntmps13
  go_wp2
  (try simp only [Exit.inBlock, Exit.then])
  exact bodyPost_ret (v := tnV k l) (results_nd rfl _ _ w.heap.size ⟨5, k, l, false, 0, 0⟩ rfl HBl.out) rfl ⟨rfl, HB.out⟩



/-- Parts with a dot behind each. -/
def jD : List (List UInt8) → List UInt8
  | [] => []
  | d :: r => d ++ 46 :: jD r
theorem jD_snoc (c : List UInt8) : ∀ l : List (List UInt8), jD (l ++ [c]) = jD l ++ (c ++ [46])
  | [] => by simp [jD]
  | d :: r => by rw [List.cons_append, jD, jD_snoc c r, jD]; simp
theorem jD_count : ∀ (l : List (List UInt8)), (∀ d ∈ l, d.count 46 = 0) → (jD l).count 46 = l.length
  | [], _ => rfl
  | d :: r, h => by
    rw [jD, List.count_append, List.count_cons, h d (by simp), jD_count r (fun x hx => h x (by simp [hx]))]
    simp
/-- The three cells. -/
def oL (dn : List (List UInt8)) : List Value := [tV (dn.getD 0 []), tV (dn.getD 1 []), tV (dn.getD 2 [])]
theorem oL_set : ∀ (dn : List (List UInt8)) (c : List UInt8), dn.length ≤ 2 → (oL dn).set dn.length (tV c) = oL (dn ++ [c])
  | [], _, _ => rfl
  | [_], _, _ => rfl
  | [_, _], _, _ => rfl
  | _ :: _ :: _ :: _, _, h => by simp at h
/-- How far Cut has come. -/
def CtS (s : List UInt8) (i : Nat) (dn : List (List UInt8)) (fr : Nat) : Prop :=
  (i ≤ s.length ∧ dn.length ≤ 2 ∧ fr ≤ i ∧ ∃ cur, s.take i = jD dn ++ cur ∧ cur.count 46 = 0 ∧ (∀ d ∈ dn, d.count 46 = 0) ∧ fr = (jD dn).length ∧ (s.drop fr).take (i - fr) = cur) ∨ (i = s.length + 1 ∧ dn = [hdD s, hdD (tlD s), tlD (tlD s)])
theorem ct_len {s : List UInt8} (h2 : s.count 46 = 2) {i : Nat} {dn : List (List UInt8)} {cur : List UInt8} (ht : s.take i = jD dn ++ cur) (hd : ∀ d ∈ dn, d.count 46 = 0) : dn.length ≤ 2 := by
  have h1 : (s.take i).count 46 ≤ s.count 46 := (List.take_sublist i s).count_le 46
  rw [ht, List.count_append, jD_count dn hd] at h1
  omega
theorem ct_cur {s : List UInt8} {i : Nat} {dn : List (List UInt8)} {cur : List UInt8} (hi : i ≤ s.length) (ht : s.take i = jD dn ++ cur) : (jD dn).length ≤ i ∧ (s.drop (jD dn).length).take (i - (jD dn).length) = cur := by
  have hl : (s.take i).length = i := List.length_take_of_le hi
  have hl2 := hl
  rw [ht, List.length_append] at hl2
  refine ⟨by omega, ?_⟩
  rw [← List.drop_take, ht, List.drop_left]
theorem ct_mk {s : List UInt8} (h2 : s.count 46 = 2) {i : Nat} {dn : List (List UInt8)} {cur : List UInt8} (hi : i ≤ s.length) (ht : s.take i = jD dn ++ cur) (hc : cur.count 46 = 0) (hd : ∀ d ∈ dn, d.count 46 = 0) : CtS s i dn (jD dn).length := by
  obtain ⟨h3, h4⟩ := ct_cur hi ht
  exact .inl ⟨hi, ct_len h2 ht hd, h3, cur, ht, hc, hd, rfl, h4⟩
theorem ct_dot {s : List UInt8} (h2 : s.count 46 = 2) {i : Nat} (hi : i < s.length) (hx : s[i] = 46) {dn : List (List UInt8)} {cur : List UInt8} (ht : s.take i = jD dn ++ cur) (hc : cur.count 46 = 0) (hd : ∀ d ∈ dn, d.count 46 = 0) : CtS s (i + 1) (dn ++ [cur]) (i + 1) := by
  have e : s.take (i + 1) = jD (dn ++ [cur]) ++ [] := by
    rw [List.take_succ_eq_append_getElem hi, ht, hx, jD_snoc]
    simp
  have hl : (jD (dn ++ [cur])).length = i + 1 := by
    have := congrArg List.length e
    rw [List.length_take_of_le (by omega), List.append_nil] at this
    omega
  have := ct_mk h2 (i := i + 1) (by omega) e rfl (fun d hd2 => by
    rcases List.mem_append.1 hd2 with h | h
    · exact hd d h
    · rw [List.mem_singleton.1 h]; exact hc)
  rwa [hl] at this
theorem ct_no {s : List UInt8} (h2 : s.count 46 = 2) {i : Nat} (hi : i < s.length) (hx : s[i] ≠ 46) {dn : List (List UInt8)} {cur : List UInt8} (ht : s.take i = jD dn ++ cur) (hc : cur.count 46 = 0) (hd : ∀ d ∈ dn, d.count 46 = 0) : CtS s (i + 1) dn (jD dn).length := by
  refine ct_mk h2 (cur := cur ++ [s[i]]) (by omega) ?_ ?_ hd
  · rw [List.take_succ_eq_append_getElem hi, ht, List.append_assoc]
  · rw [List.count_append, hc, List.count_singleton]
    simp [hx]
theorem ct_end {s : List UInt8} (h2 : s.count 46 = 2) {dn : List (List UInt8)} {cur : List UInt8} (ht : s.take s.length = jD dn ++ cur) (hc : cur.count 46 = 0) (hd : ∀ d ∈ dn, d.count 46 = 0) (fr : Nat) : CtS s (s.length + 1) (dn ++ [cur]) fr := by
  rw [List.take_of_length_le (Nat.le_refl _)] at ht
  have hk : dn.length = 2 := by
    have := h2
    rw [ht, List.count_append, jD_count dn hd, hc] at this
    omega
  refine .inr ⟨rfl, ?_⟩
  match dn, hk with
  | [p, q], _ =>
    have e : s = p ++ 46 :: (q ++ 46 :: cur) := by rw [ht]; simp [jD]
    obtain ⟨e1, e2, e3⟩ := cut_parts (c := cur) (hd p (by simp)) (hd q (by simp))
    rw [← e] at e1 e2 e3
    rw [e1, e2, e3]
    rfl
theorem ext_cur (s : List UInt8) (a b : Nat) : (⟨s.toArray⟩ : ByteArray).extract a b = ⟨((s.drop a).take (b - a)).toArray⟩ := by
  rw [Lib.extract_eq]
theorem results_a3 {fn : Func} {p : Tmp} (h : fn.results = #[.cell p 39]) (tmps : Array Value) (w : World) (b : Nat) (cs : List Value) (hcs : cs.length = 3) (hp : tmps.getD p undef = .pointer (some ⟨b, 0, none⟩)) (hb : Bl 39 w b cs) :
    (results fn tmps).run Tryd.prog w = .ok (.agg cs.toArray) w := by
  have hr : (loadVar 39 ⟨b, 0, none⟩).run Tryd.prog w = .ok (.agg cs.toArray) w := by
    refine run_loadVar_mid w b 0 39 cs _ ?_ Tryd.underlying39 rfl (by rw [hcs]; kernel_rfl)
    intro j v hv
    obtain ⟨hj, e⟩ := List.getElem?_eq_some_iff.1 hv
    rw [Nat.zero_add, ← e]
    exact hb.cell j hj
  rw [results_cell h, hp]
  unfold asAddr
  simp only [Sem.run_pure, Result.andThen_ok]
  exact hr

set_option maxRecDepth 100000 in
set_option maxHeartbeats 16000000 in
/-- The document's Cut, of a text with two dots. -/
theorem rcut_any (s : List UInt8) (w : World) (h2 : s.count 46 = 2) (hl : s.length ≤ 1000000000) :
    Calls Tryd.prog 14 #[.string ⟨s.toArray⟩] w fun e w' => e = .returned (.agg (oL [hdD s, hdD (tlD s), tlD (tlD s)]).toArray) ∧ Below w.heap.size w w' := by
  have HD : Hid (∀ (i : Nat) (hi : i < s.length), s[i] = 46 → ∀ dn cur, s.take i = jD dn ++ cur → cur.count 46 = 0 → (∀ d ∈ dn, d.count 46 = 0) → CtS s (i + 1) (dn ++ [cur]) (i + 1)) := fun i hi hx dn cur => ct_dot h2 hi hx
  have HNo : Hid (∀ (i : Nat) (hi : i < s.length), s[i] ≠ 46 → ∀ dn cur, s.take i = jD dn ++ cur → cur.count 46 = 0 → (∀ d ∈ dn, d.count 46 = 0) → CtS s (i + 1) dn (jD dn).length) := fun i hi hx dn cur => ct_no h2 hi hx
  have HE : Hid (∀ dn cur fr, s.take s.length = jD dn ++ cur → cur.count 46 = 0 → (∀ d ∈ dn, d.count 46 = 0) → CtS s (s.length + 1) (dn ++ [cur]) fr) := fun dn cur fr ht hc hd => ct_end h2 ht hc hd fr
  have HC0 : Hid (CtS s 0 [] 0) := ct_mk h2 (cur := []) (Nat.zero_le _) rfl rfl (fun d hd => by cases hd)
  obtain ⟨W, hW⟩ : ∃ W : World, (w.alloc (.cells #[.string ⟨#[]⟩, .string ⟨#[]⟩, .string ⟨#[]⟩] 39)).alloc (.cells #[.string ⟨#[]⟩, .string ⟨#[]⟩, .string ⟨#[]⟩] 39) = W := ⟨_, rfl⟩
  have b1 := alloc_below w (.cells #[.string ⟨#[]⟩, .string ⟨#[]⟩, .string ⟨#[]⟩] 39)
  have b2 := alloc_below (w.alloc (.cells #[.string ⟨#[]⟩, .string ⟨#[]⟩, .string ⟨#[]⟩] 39)) (.cells #[.string ⟨#[]⟩, .string ⟨#[]⟩, .string ⟨#[]⟩] 39)
  have l1 : Bl 39 _ _ (oL []) := alloc_bl w (oL []) 39
  have l2 : Bl 39 _ _ (oL []) := alloc_bl (w.alloc (.cells #[.string ⟨#[]⟩, .string ⟨#[]⟩, .string ⟨#[]⟩] 39)) (oL []) 39
  have HBw : Hid (Below w.heap.size w W) := by rw [← hW]; exact b1.trans (b2.mono b1.size)
  have HL1 : Hid (Bl 39 W w.heap.size (oL [])) := by rw [← hW]; exact l1.below b2 l1.lt
  have HL2 : Hid (Bl 39 W (w.heap.size + 1) (oL [])) := by rw [alloc_size] at l2; rw [← hW]; exact l2
  have HW : Hid ((w.alloc (.cells #[.string ⟨#[]⟩, .string ⟨#[]⟩, .string ⟨#[]⟩] 39)).alloc (.cells #[.string ⟨#[]⟩, .string ⟨#[]⟩, .string ⟨#[]⟩] 39) = W) := hW
  have hsz : (w.alloc (.cells #[.string ⟨#[]⟩, .string ⟨#[]⟩, .string ⟨#[]⟩] 39)).heap.size = w.heap.size + 1 := alloc_size _ _
  have hgi : (Tryd.prog.info? 39).map (·.size) = some 3 := by kernel_rfl
  clear b1 b2 l1 l2 hW h2
  go_enter Tryd.func14, Tryd.ntmps14
  go_wp2
  rw [HW.out]
  clear HW hsz
  go_loopw [6, 4, 5] (fun s6 s4 s5 wx => ∃ (i fr : Nat) (dn : List (List UInt8)), s6 = .int .i64 i ∧ s4 = .int .i64 (dn.length : Nat) ∧ s5 = .int .i64 fr ∧ CtS s i dn fr ∧ Below w.heap.size w wx ∧ Bl 39 wx w.heap.size (oL []) ∧ Bl 39 wx (w.heap.size + 1) (oL dn)) (fun x _ _ _ => s.length + 1 - (intOf x).toNat)
  case atStart => exact ⟨0, 0, [], rfl, rfl, rfl, HC0.out, HBw.out, HL1.out, HL2.out⟩
  case round =>
    obtain ⟨i, fr, dn, rfl, rfl, rfl, hct, hb, hl1, hl2⟩ := hrel
    have HBr : Hid (Below w.heap.size w wr) := hb
    have HLr : Hid (Bl 39 wr w.heap.size (oL [])) := hl1
    have HMr : Hid (Bl 39 wr (w.heap.size + 1) (oL dn)) := hl2
    clear HC0 HBw HL1 HL2
    rcases hct with ⟨hi, hdl, hfr, cur, ht, hc, hd, hfe, hcu⟩ | ⟨hi, hdn⟩
    · have q0 : decide ((i : Int) ≤ (s.length : Int)) = true := decide_eq_true (by omega)
      have q00 : decide (i ≤ s.length) = true := decide_eq_true hi
      have HCU : Hid ((⟨s.toArray⟩ : ByteArray).extract fr i = ⟨cur.toArray⟩) := by show _ = _; rw [ext_cur, hcu]
      have HIN : Hid (∀ x, s.length = x → True) := fun _ _ => trivial
      have hk3 : (dn.length : Int) < 3 := by omega
      have hfi : (fr : Int) ≤ (i : Int) := by omega
      have hil : (i : Int) ≤ (s.length : Int) := by omega
      have ck := hl2.cell dn.length (by show dn.length < 3; omega)
      have cf := hl2.frozen dn.length
      generalize (oL dn)[dn.length]'(by show dn.length < 3; omega) = old at ck
      have hset := hl2.set dn.length (tV cur)
      rw [oL_set dn cur hdl] at hset
      obtain ⟨wy, hwy⟩ : ∃ x, wr.setCell ⟨w.heap.size + 1, dn.length, none⟩ (.string ⟨cur.toArray⟩) = x := ⟨_, rfl⟩
      have hset2 : Bl 39 wy (w.heap.size + 1) (oL (dn ++ [cur])) := by rw [← hwy]; exact hset
      have hoth : Bl 39 wy w.heap.size (oL []) := by rw [← hwy]; exact bl_other hl1 (by omega)
      have hby : Below w.heap.size w wy := by rw [← hwy]; exact hb.setCell (by show w.heap.size ≤ w.heap.size + 1; omega) _
      have HSY : Hid (Bl 39 wy (w.heap.size + 1) (oL (dn ++ [cur]))) := hset2
      have HOY : Hid (Bl 39 wy w.heap.size (oL [])) := hoth
      have HBY : Hid (Below w.heap.size w wy) := hby
      have HWY : Hid (wr.setCell ⟨w.heap.size + 1, dn.length, none⟩ (.string ⟨cur.toArray⟩) = wy) := hwy
      have HLA : Hid ((dn ++ [cur]).length = dn.length + 1) := by show _ = _; simp
      clear hb hl1 hl2 hset hset2 hoth hby hwy hcu
      by_cases hlt : i < s.length
      · have q1 : ((i : Int) == (s.length : Int)) = false := beq_eq_false_iff_ne.2 (by omega)
        obtain ⟨x, Hx⟩ : ∃ x, Hid (s[i] = x) := ⟨s[i], rfl⟩
        have gx : (⟨s.toArray⟩ : ByteArray)[i]'(by show i < s.toArray.size; simpa using hlt) = x := by rw [← Hx.out]; simp [ByteArray.getElem_eq_getElem_data]
        by_cases hx : x = 46
        · subst hx
          have HN : Hid (CtS s (i + 1) (dn ++ [cur]) (i + 1)) := HD.out i hlt Hx.out dn cur ht hc hd
          have hcx := HCU.out
          have hwx := HWY.out
          clear ht hc hd hfe Hx HCU HWY HD HNo HE
          go_wp2
          go_roundw
          case rel => exact ⟨i + 1, i + 1, dn ++ [cur], by go_num, by (try rw [HLA.out]); (try go_num), by go_num, HN.out, HBY.out, HOY.out, HSY.out⟩
          case measure => simp [intOf]; omega
        · have hx2 : ((x.toNat : Int) == 46) = false := by
            rw [beq_eq_false_iff_ne]
            intro e
            exact hx (UInt8.toNat_inj.1 (by have : (46 : UInt8).toNat = 46 := rfl; omega))
          have HN : Hid (CtS s (i + 1) dn fr) := by
            have := HNo.out i hlt (by rw [Hx.out]; exact hx) dn cur ht hc hd
            rwa [← hfe] at this
          clear ht hc hd hfe Hx HCU HWY HD HNo HE hx
          go_wp2
          go_roundw
          case rel => exact ⟨i + 1, fr, dn, by go_num, rfl, rfl, HN.out, HBr.out, HLr.out, HMr.out⟩
          case measure => simp [intOf]; omega
      · obtain rfl : i = s.length := by omega
        have q1 : ((s.length : Int) == (s.length : Int)) = true := by simp
        have HN : Hid (CtS s (s.length + 1) (dn ++ [cur]) (s.length + 1)) := HE.out dn cur _ ht hc hd
        have hcx := HCU.out
        have hwx := HWY.out
        clear ht hc hd hfe HCU HWY HD HNo HE
        go_wp2
        go_roundw
        case rel => exact ⟨s.length + 1, s.length + 1, dn ++ [cur], by first | rfl | go_num, by (try rw [HLA.out]); (try go_num), by first | rfl | go_num, HN.out, HBY.out, HOY.out, HSY.out⟩
        case measure => (try simp [intOf]); (try omega)
    · subst hi
      have q0 : decide (((s.length + 1 : Nat) : Int) ≤ (s.length : Int)) = false := decide_eq_false (by omega)
      have q00 : decide (s.length + 1 ≤ s.length) = false := decide_eq_false (by omega)
      have q01 : decide ((s.length : Int) + 1 ≤ (s.length : Int)) = false := decide_eq_false (by omega)
      obtain ⟨Z, hZ⟩ : ∃ Z, [hdD s, hdD (tlD s), tlD (tlD s)] = Z := ⟨_, rfl⟩
      rw [hdn, hZ] at HMr
      have HZe : Hid ([hdD s, hdD (tlD s), tlD (tlD s)] = Z) := hZ
      clear hZ
      obtain ⟨z0, hz0⟩ : ∃ z, Z.getD 0 [] = z := ⟨_, rfl⟩
      obtain ⟨z1, hz1⟩ : ∃ z, Z.getD 1 [] = z := ⟨_, rfl⟩
      obtain ⟨z2, hz2⟩ : ∃ z, Z.getD 2 [] = z := ⟨_, rfl⟩
      have HZ : Hid (oL Z = [.string ⟨z0.toArray⟩, .string ⟨z1.toArray⟩, .string ⟨z2.toArray⟩]) := by show _ = _; unfold oL tV; rw [hz0, hz1, hz2]
      rw [HZ.out] at HMr
      have p0 : wr.rangeAt (w.heap.size + 1) 0 [.string ⟨z0.toArray⟩, .string ⟨z1.toArray⟩, .string ⟨z2.toArray⟩] := fun j u hu => by
        obtain ⟨hj, e⟩ := List.getElem?_eq_some_iff.1 hu
        rw [Nat.zero_add, ← e]
        exact HMr.out.cell j hj
      obtain ⟨wz, hwz⟩ : ∃ x, wr.setRow w.heap.size #[.string ⟨z0.toArray⟩, .string ⟨z1.toArray⟩, .string ⟨z2.toArray⟩] = x := ⟨_, rfl⟩
      have HWz : Hid (wr.setRow w.heap.size #[.string ⟨z0.toArray⟩, .string ⟨z1.toArray⟩, .string ⟨z2.toArray⟩] = wz) := hwz
      have HBz : Hid (Bl 39 wz w.heap.size [.string ⟨z0.toArray⟩, .string ⟨z1.toArray⟩, .string ⟨z2.toArray⟩]) := by rw [← hwz]; exact set_bl2 (new := [.string ⟨z0.toArray⟩, .string ⟨z1.toArray⟩, .string ⟨z2.toArray⟩]) HLr.out
      have Hz : Hid (Below w.heap.size w wz) := by rw [← hwz]; exact setRow_below2 _ HBr.out (Nat.le_refl _)
      clear hwz hz0 hz1 hz2 hb hl1 hl2 hdn HD HNo HE
      go_wp2_with (first | (refine wpList_load_mid rfl 39 (.tmp 3) rfl (w.heap.size + 1) 0 rfl [.string ⟨z0.toArray⟩, .string ⟨z1.toArray⟩, .string ⟨z2.toArray⟩] _ p0 Tryd.underlying39 rfl hgi ?_) | (refine wpList_store_row rfl 39 (.tmp 2) (.tmp 33) rfl w.heap.size #[.string ⟨z0.toArray⟩, .string ⟨z1.toArray⟩, .string ⟨z2.toArray⟩] rfl rfl 39 (oL []).toArray HLr.out hgi rfl (by simp [Value.oneCell']) ?_; rw [HWz.out]; clear HWz) | fail)
      (try simp only [Exit.inBlock, Exit.then])
      refine bodyPost_ret (v := .agg #[.string ⟨z0.toArray⟩, .string ⟨z1.toArray⟩, .string ⟨z2.toArray⟩]) (results_a3 rfl _ _ w.heap.size [.string ⟨z0.toArray⟩, .string ⟨z1.toArray⟩, .string ⟨z2.toArray⟩] rfl rfl HBz.out) rfl ⟨?_, Hz.out⟩
      rw [HZe.out, HZ.out]

end Go.Proofs.YtapljedegjiliaaDoor

namespace Go.Proofs.YtapljedegjiliaaDoor
open Go.RowKit Go.Shelf

theorem bl_grownG {t : TypeId} {w w' : World} {b : Nat} {cs : List Value} {row : Option Nat} (h : Bl t w b cs) (hg : w.grownBy w' row) (hne : row ≠ some b) : Bl t w' b cs := by
  have := h.lt
  unfold Bl at *
  rw [hg.block b this (fun e => hne e.symm)]; exact h
theorem block_apart2 {w : World} {base n size b : Nat} {e t : TypeId} {v : Value} {xs cs : List Value} (h : w.ownsRow base e size v n xs) (hb : Bl t w b cs) (hne : e ≠ t) (he : v.ownBlock = some b) : False := by
  rcases h.2 with ⟨rfl, _⟩ | ⟨g, cap, cur, rfl, _, hh, _⟩
  · cases he
  · simp [Value.ownBlock] at he
    subst he
    unfold Bl at hb
    rw [hb] at hh
    injection hh with hh
    injection hh with _ hh2
    exact hne (by simpa using hh2.symm)
set_option maxRecDepth 100000 in
theorem ix_a3 (w : World) (x y z : List UInt8) : (Instr.index 39 (.agg #[.string ⟨x.toArray⟩, .string ⟨y.toArray⟩, .string ⟨z.toArray⟩]) (.int .i64 1)).run Tryd.prog w = .ok (.string ⟨y.toArray⟩) w := by
  simp [Instr.index, run_underlying Tryd.underlying39, asIntOf, go_sem]
/-- The document asks first whether each can be cut. -/
theorem all_g2 (p : List UInt8) : ∀ ts : List (List UInt8), ts.all (okG2 p) = (ts.all okT2 && ts.all (fun t => decide (hdD (tlD t) = p)))
  | [] => rfl
  | t :: r => by
    simp only [List.all_cons, all_g2 p r, okG2]
    cases okT2 t <;> cases decide (hdD (tlD t) = p) <;> cases r.all okT2 <;> rfl

set_option maxRecDepth 100000 in
set_option maxHeartbeats 32000000 in
/-- The document's General. -/
theorem rgen_any (ts : List (List UInt8)) (ao : Option Addr) (cap : Nat) (w : World) (h : TR w (.slice ao ts.length cap) ts ao cap) (hB : ∀ t ∈ ts, t.length ≤ 100000000) (hl : ts.length ≤ 1000000000) :
    Calls Tryd.prog 6 #[.slice ao ts.length cap] w fun e w' => e = .returned (.tuple #[.string ⟨(genF ts).1.toArray⟩, .int .i64 ((genF ts).2 : Int)]) ∧ Below w.heap.size w w' := by
  have HG : Hid (goodG ts = (decide (0 < ts.length) && decide (ts.length ≤ 16) && ts.all (okG2 (payF ts)))) := rfl
  have HF : Hid (genF ts = if goodG ts = true then printF (gnF ts) else ([], 140)) := rfl
  by_cases h0 : 0 < ts.length
  case neg =>
    have q0 : ((ts.length : Int) == 0) = true := beq_iff_eq.2 (by omega)
    have HX : Hid (genF ts = ([], 140)) := by show _ = _; rw [HF.out, HG.out, decide_eq_false h0]; rfl
    have HBz : Hid (Below w.heap.size w w) := Below.refl _ _
    clear h hB HG HF
    generalize ts.length = n at *
    go_enter Tryd.func6, Tryd.ntmps6
    go_wp2
    go_ret2
    rw [HX.out]
    exact ⟨rfl, HBz.out⟩
  have q0 : ((ts.length : Int) == 0) = false := beq_eq_false_iff_ne.2 (by omega)
  by_cases h16 : 16 < ts.length
  case pos =>
    have q1 : decide ((ts.length : Int) > 16) = true := decide_eq_true (by omega)
    have HX : Hid (genF ts = ([], 140)) := by show _ = _; rw [HF.out, HG.out, decide_eq_false (show ¬ ts.length ≤ 16 by omega), Bool.and_false]; rfl
    have HBz : Hid (Below w.heap.size w w) := Below.refl _ _
    clear h hB HG HF
    generalize ts.length = n at *
    go_enter Tryd.func6, Tryd.ntmps6
    go_wp2
    go_ret2
    rw [HX.out]
    exact ⟨rfl, HBz.out⟩
  have q1 : decide ((ts.length : Int) > 16) = false := decide_eq_false (by omega)
  have HG2 : Hid (goodG ts = (ts.all okT2 && ts.all (fun t => decide (hdD (tlD t) = payF ts)))) := by show _ = _; rw [HG.out, decide_eq_true h0, decide_eq_true (show ts.length ≤ 16 by omega), all_g2]; rfl
  have HTR : Hid (∀ wx, Below w.heap.size w wx → TR wx (.slice ao ts.length cap) ts ao cap) := fun wx hx => h.below hx (Nat.le_refl _)
  have HBt : Hid (∀ k, k < ts.length → (ts.getD k []).length ≤ 100000000) := fun k hk => hB _ (by rw [List.getD_eq_getElem?_getD, List.getElem?_eq_getElem hk]; exact List.getElem_mem hk)
  have hgl : (gnF ts).length ≤ 100 := by rw [gnF_len]; omega
  have hgb := gn_bd (B := 100000000) hB (by omega)
  have HPR : Hid (∀ ao2 cap2 wq, NR wq (.slice ao2 (gnF ts).length cap2) (gnF ts) ao2 cap2 → Calls Tryd.prog 15 #[.slice ao2 (gnF ts).length cap2] wq fun e w' => e = .returned (.tuple #[.string ⟨(printF (gnF ts)).1.toArray⟩, .int .i64 ((printF (gnF ts)).2 : Int)]) ∧ Below wq.heap.size wq w') := fun ao2 cap2 wq hn => rprint_any (gnF ts) ao2 cap2 wq hn (by omega) (ts_of hgb (by omega)) (by
    have h1 := sumW_le hgb
    have h2 : (gnF ts).length * (12 * 100000000 + 12) ≤ 100 * (12 * 100000000 + 12) := Nat.mul_le_mul_right _ hgl
    omega)
  have HADT : Hid (∀ k, k < ts.length → (ts.drop k).all okT2 = (okT2 (ts.getD k []) && (ts.drop (k + 1)).all okT2)) := fun k hk => all_dropT hk
  obtain ⟨g, off, rfl, _⟩ := h.at h0
  have hl0 : (0 : Int) < (ts.length : Int) := by omega
  clear hgl hgb HG h hB
  go_enter Tryd.func6, Tryd.ntmps6
  go_wp2
  go_loopw [4] (fun s4 wx => ∃ k : Nat, s4 = .int .i64 k ∧ k ≤ ts.length ∧ Below w.heap.size w wx ∧ (ts.drop k).all okT2 = ts.all okT2) (fun x _ => ts.length - (intOf x).toNat)
  case atStart => exact ⟨0, rfl, Nat.zero_le _, Below.refl _ _, rfl⟩
  case round =>
    obtain ⟨k, rfl, hk, hb, hd⟩ := hrel
    have HBr : Hid (Below w.heap.size w wr) := hb
    by_cases hlt : k < ts.length
    · have q2 : decide ((k : Int) < (ts.length : Int)) = true := decide_eq_true (by omega)
      have q3 : (k : Int) < (ts.length : Int) := by omega
      obtain ⟨g', off', e, ck⟩ := (HTR.out wr hb).at hlt
      cases e
      rw [HADT.out k hlt] at hd
      have htl := HBt.out k hlt
      generalize ts.getD k [] = t at *
      have CD := rdotsO_any t wr (by omega)
      have HD : Hid ((okT2 t && (ts.drop (k + 1)).all okT2) = ts.all okT2) := hd
      have ho : okT2 t = (decide (t.count 46 = 2) && Lib.validD t) := rfl
      by_cases h2 : t.count 46 = 2
      case neg =>
        have q4 : ((t.count 46 : Int) != 2) = true := by simp; omega
        have HX : Hid (genF ts = ([], 140)) := by show _ = _; rw [HF.out, HG2.out, ← HD.out, ho, decide_eq_false h2]; rfl
        have HBz : Hid (Below w.heap.size w wr) := hb
        generalize t.count 46 = n at *
        clear hb hd HD ho HF HG2 HPR HADT
        go_wp2_with fail
        refine CD.mono ?_
        clear CD
        rintro e w1 ⟨rfl, rfl⟩
        go_wp2
        go_ret2
        rw [HX.out]
        exact ⟨rfl, HBz.out⟩
      have q4 : ((t.count 46 : Int) != 2) = false := by simp; omega
      rw [decide_eq_true h2, Bool.true_and] at ho
      have CN := rnode_any [] t wr
      unfold tnV at CN
      have HCS : Hid (∀ wq : World, Calls Tryd.prog 12 #[.slice (some ⟨wq.heap.size, 0, none⟩) 1 1] (wq.alloc (.cells #[.int .i64 5, .string ⟨#[]⟩, .string ⟨t.toArray⟩, .bool false, .int .i64 0, .int .i64 0] 37)) fun e w' => e = .returned (.bool (Lib.validD t)) ∧ Below (wq.alloc (.cells #[.int .i64 5, .string ⟨#[]⟩, .string ⟨t.toArray⟩, .bool false, .int .i64 0, .int .i64 0] 37)).heap.size (wq.alloc (.cells #[.int .i64 5, .string ⟨#[]⟩, .string ⟨t.toArray⟩, .bool false, .int .i64 0, .int .i64 0] 37)) w') := fun wq => by
        have h9 := rshaped_any [⟨5, [], t, false, 0, 0⟩] (some ⟨wq.heap.size, 0, none⟩) 1 _ (three_nr wq [⟨5, [], t, false, 0, 0⟩] #[.int .i64 5, .string ⟨#[]⟩, .string ⟨t.toArray⟩, .bool false, .int .i64 0, .int .i64 0] rfl 1 rfl) (by simp) (ts_of (B := 100000000) (fun n hn => by
          rw [List.mem_singleton.1 hn]
          exact ⟨htl, by simp⟩) (by omega))
        rw [shaped_one] at h9
        exact h9
      generalize t.count 46 = n at *
      clear hb hd
      go_wp2_with fail
      refine CD.mono ?_
      clear CD
      rintro e w1 ⟨rfl, rfl⟩
      go_wp2_with fail
      refine CN.mono ?_
      clear CN
      rintro e w2 ⟨rfl, hB2⟩
      have HB2 : Hid (Below w.heap.size w w2) := HBr.out.trans (hB2.mono HBr.out.size)
      have CS := HCS.out w2
      obtain ⟨w3, hw3⟩ : ∃ x, w2.alloc (.cells #[.int .i64 5, .string ⟨#[]⟩, .string ⟨t.toArray⟩, .bool false, .int .i64 0, .int .i64 0] 37) = x := ⟨_, rfl⟩
      rw [hw3] at CS
      have HB3 : Hid (Below w.heap.size w w3) := by rw [← hw3]; exact HB2.out.trans ((alloc_below _ _).mono HB2.out.size)
      have HW3 : Hid (w2.alloc (.cells #[.int .i64 5, .string ⟨#[]⟩, .string ⟨t.toArray⟩, .bool false, .int .i64 0, .int .i64 0] 37) = w3) := hw3
      clear hw3 hB2 HCS HB2
      go_wp2_with fail
      rw [HW3.out]
      clear HW3
      refine CS.mono ?_
      clear CS
      rintro e w4 ⟨rfl, hB4⟩
      have HBz : Hid (Below w.heap.size w w4) := HB3.out.trans (hB4.mono HB3.out.size)
      clear hB4 HB3
      cases hv : Lib.validD t with
      | false =>
        rw [hv] at ho
        have HX : Hid (genF ts = ([], 140)) := by show _ = _; rw [HF.out, HG2.out, ← HD.out, ho]; rfl
        clear HD ho HF HG2 HPR HADT
        go_wp2
        go_ret2
        rw [HX.out]
        exact ⟨rfl, HBz.out⟩
      | true =>
        rw [hv] at ho
        have HD2 : Hid ((ts.drop (k + 1)).all okT2 = ts.all okT2) := by show _ = _; rw [← HD.out, ho]; rfl
        clear HD ho
        go_wp2
        go_roundw
        case rel => exact ⟨k + 1, by go_num, by omega, HBz.out, HD2.out⟩
        case measure => simp [intOf]; omega
    · have q2 : decide ((k : Int) < (ts.length : Int)) = false := decide_eq_false (by omega)
      have hall : ts.all okT2 = true := by rw [← hd, List.drop_eq_nil_of_le (by omega)]; rfl
      have HT2 : Hid (∀ k, k < ts.length → (ts.getD k []).count 46 = 2 ∧ okT2 (ts.getD k []) = true) := fun k hk => by
        have h9 := List.all_eq_true.1 hall (ts.getD k []) (by rw [List.getD_eq_getElem?_getD, List.getElem?_eq_getElem hk]; exact List.getElem_mem hk)
        have h10 := h9
        unfold okT2 at h9
        simp only [Bool.and_eq_true, decide_eq_true_eq] at h9
        exact ⟨h9.1, h10⟩
      have HG3 : Hid (goodG ts = ts.all (fun t => decide (hdD (tlD t) = payF ts))) := by show _ = _; rw [HG2.out, hall]; rfl
      have HGF : Hid (gnF ts = gHd (payF ts) ts.length ++ ts.flatMap gnN) := rfl
      have HGT : Hid (∀ k, k < ts.length → (ts.take (k + 1)).flatMap gnN = (ts.take k).flatMap gnN ++ gnN (ts.getD k [])) := fun k hk => gn_take hk
      have HAD : Hid (∀ k, k < ts.length → (ts.drop k).all (fun t => decide (hdD (tlD t) = payF ts)) = (decide (hdD (tlD (ts.getD k [])) = payF ts) && (ts.drop (k + 1)).all (fun t => decide (hdD (tlD t) = payF ts)))) := fun k hk => all_dropT (f := fun t => decide (hdD (tlD t) = payF ts)) hk
      obtain ⟨g', off', e, ck⟩ := (HTR.out wr hb).at h0
      cases e
      rw [Nat.add_zero] at ck
      obtain ⟨t0, ht0⟩ : ∃ t, ts.getD 0 [] = t := ⟨_, rfl⟩
      have h20 := HT2.out 0 h0
      have hb0 := HBt.out 0 h0
      rw [ht0] at ck h20 hb0
      have C0 := rcut_any t0 wr h20.1 (by omega)
      have HP : Hid (payF ts = hdD (tlD t0)) := by show _ = _; unfold payF cutF; rw [ht0, h20.2]; rfl
      obtain ⟨P, hP⟩ : ∃ p, payF ts = p := ⟨_, rfl⟩
      rw [hP] at HP HGF HAD HG3
      generalize hdD t0 = x1 at *
      generalize hdD (tlD t0) = x2 at *
      generalize tlD (tlD t0) = x3 at *
      obtain rfl : P = x2 := HP.out
      have C0 : Calls Tryd.prog 14 #[.string ⟨t0.toArray⟩] wr fun e w' => e = .returned (.agg #[.string ⟨x1.toArray⟩, .string ⟨P.toArray⟩, .string ⟨x3.toArray⟩]) ∧ Below wr.heap.size wr w' := C0
      clear hb hd hall HG2 HADT ht0 h20 hb0 hP HP
      go_wp2_with fail
      refine C0.mono ?_
      clear C0 ck
      rintro e w1 ⟨rfl, hB1⟩
      have HB1 : Hid (Below w.heap.size w w1) := HBr.out.trans (hB1.mono HBr.out.size)
      have hix := ix_a3 w1 x1 P x3
      have CT := rnode_any kPay P w1
      unfold tnV at CT
      clear hB1 HBr
      go_wp2_with fail
      refine CT.mono ?_
      clear CT hix
      rintro e w2 ⟨rfl, hB2⟩
      obtain ⟨w3, hw3⟩ : ∃ x, w2.alloc (.cells #[.int .i64 7, .string ⟨#[]⟩, .string ⟨#[]⟩, .bool false, .int .i64 0, .int .i64 2, .int .i64 5, .string ⟨#[112, 97, 121, 108, 111, 97, 100]⟩, .string ⟨P.toArray⟩, .bool false, .int .i64 0, .int .i64 0, .int .i64 6, .string ⟨#[115, 105, 103, 110, 97, 116, 117, 114, 101, 115]⟩, .string ⟨#[]⟩, .bool false, .int .i64 0, .int .i64 (ts.length : Int)] 37) = x := ⟨_, rfl⟩
      have HN3 : Hid (NO w.heap.size w3 (.slice (some ⟨w2.heap.size, 0, none⟩) 3 3) (gHd P ts.length)) := by
        rw [← hw3]
        exact World.ownsRow_lit w2 #[.int .i64 7, .string ⟨#[]⟩, .string ⟨#[]⟩, .bool false, .int .i64 0, .int .i64 2, .int .i64 5, .string ⟨#[112, 97, 121, 108, 111, 97, 100]⟩, .string ⟨P.toArray⟩, .bool false, .int .i64 0, .int .i64 0, .int .i64 6, .string ⟨#[115, 105, 103, 110, 97, 116, 117, 114, 101, 115]⟩, .string ⟨#[]⟩, .bool false, .int .i64 0, .int .i64 (ts.length : Int)] 3 (Nat.le_trans HB1.out.size hB2.size) (by decide) rfl
      have HB3 : Hid (Below w.heap.size w w3) := by
        rw [← hw3]
        have h3 := HB1.out.trans (hB2.mono HB1.out.size)
        exact h3.trans ((alloc_below _ _).mono h3.size)
      have HW3 : Hid (w2.alloc (.cells #[.int .i64 7, .string ⟨#[]⟩, .string ⟨#[]⟩, .bool false, .int .i64 0, .int .i64 2, .int .i64 5, .string ⟨#[112, 97, 121, 108, 111, 97, 100]⟩, .string ⟨P.toArray⟩, .bool false, .int .i64 0, .int .i64 0, .int .i64 6, .string ⟨#[115, 105, 103, 110, 97, 116, 117, 114, 101, 115]⟩, .string ⟨#[]⟩, .bool false, .int .i64 0, .int .i64 (ts.length : Int)] 37) = w3) := hw3
      clear hw3 hB2 HB1
      go_wp2
      rw [HW3.out]
      clear HW3
      go_loopw [7, 6] (fun s7 s6 wx => ∃ k : Nat, s7 = .int .i64 k ∧ k ≤ ts.length ∧ NO w.heap.size wx s6 (gHd P ts.length ++ (ts.take k).flatMap gnN) ∧ Below w.heap.size w wx ∧ (ts.drop k).all (fun t => decide (hdD (tlD t) = P)) = ts.all (fun t => decide (hdD (tlD t) = P))) (fun x _ _ => ts.length - (intOf x).toNat)
      case atStart => exact ⟨0, rfl, Nat.zero_le _, HN3.out, HB3.out, rfl⟩
      case round =>
        obtain ⟨k, rfl, hk, hn, hb, hd⟩ := hrel
        have HNr : Hid (NO w.heap.size wr _ (gHd P ts.length ++ (ts.take k).flatMap gnN)) := hn
        have HBr : Hid (Below w.heap.size w wr) := hb
        have hlen : (gHd P ts.length ++ (ts.take k).flatMap gnN).length ≤ 60 := by rw [List.length_append, gn_len, List.length_take_of_le hk]; show 3 + 3 * k ≤ 60; omega
        obtain ⟨va, vc, rfl, _, _⟩ := own_slice hn
        by_cases hlt : k < ts.length
        · have q2 : decide ((k : Int) < (ts.length : Int)) = true := decide_eq_true (by omega)
          have q3 : (k : Int) < (ts.length : Int) := by omega
          obtain ⟨g', off', e, ck⟩ := (HTR.out wr hb).at hlt
          cases e
          have hgt := HGT.out k hlt
          rw [HAD.out k hlt] at hd
          have htl := HBt.out k hlt
          have ht2 := (HT2.out k hlt).1
          generalize ts.getD k [] = t at *
          have C1 := rcut_any t wr ht2 (by omega)
          have HGN : Hid (gnN t = [⟨7, [], [], false, 0, 2⟩, ⟨5, kPro, hdD t, false, 0, 0⟩, ⟨5, kSig, tlD (tlD t), false, 0, 0⟩]) := rfl
          have HGT2 : Hid ((ts.take (k + 1)).flatMap gnN = (ts.take k).flatMap gnN ++ gnN t) := hgt
          have HD : Hid ((decide (hdD (tlD t) = P) && (ts.drop (k + 1)).all (fun t => decide (hdD (tlD t) = P))) = ts.all (fun t => decide (hdD (tlD t) = P))) := hd
          have HGL : Hid ((gnN t).length = 3) := rfl
          generalize hdD t = xa at *
          generalize hdD (tlD t) = xb at *
          generalize tlD (tlD t) = xc at *
          have C1 : Calls Tryd.prog 14 #[.string ⟨t.toArray⟩] wr fun e w' => e = .returned (.agg #[.string ⟨xa.toArray⟩, .string ⟨xb.toArray⟩, .string ⟨xc.toArray⟩]) ∧ Below wr.heap.size wr w' := C1
          clear hn hb hd hgt ht2
          go_wp2_with fail
          refine C1.mono ?_
          clear C1 ck
          rintro e w4 ⟨rfl, hB4⟩
          obtain ⟨w5, hw5⟩ : ∃ x, w4.alloc (.cells #[.string ⟨xa.toArray⟩, .string ⟨xb.toArray⟩, .string ⟨xc.toArray⟩] 39) = x := ⟨_, rfl⟩
          have hA5 : Below w4.heap.size w4 w5 := by rw [← hw5]; exact alloc_below _ _
          have hC5 : Bl 39 w5 w4.heap.size [.string ⟨xa.toArray⟩, .string ⟨xb.toArray⟩, .string ⟨xc.toArray⟩] := by rw [← hw5]; exact alloc_bl _ _ _
          have HBz : Hid (Below w.heap.size w w5) := by
            have h3 := HBr.out.trans (hB4.mono HBr.out.size)
            exact h3.trans (hA5.mono h3.size)
          have HN5 : Hid (NO w.heap.size w5 (.slice va (gHd P ts.length ++ (ts.take k).flatMap gnN).length vc) (gHd P ts.length ++ (ts.take k).flatMap gnN)) := own_below (own_below HNr.out hB4 (Nat.le_refl _)) hA5 (Nat.le_refl _)
          obtain ⟨bc, hbc⟩ : ∃ b, w4.heap.size = b := ⟨_, rfl⟩
          rw [hbc] at hC5
          have HCB : Hid (∀ wx, Below w5.heap.size w5 wx → Bl 39 wx bc [.string ⟨xa.toArray⟩, .string ⟨xb.toArray⟩, .string ⟨xc.toArray⟩]) := fun wx hx => hC5.below hx hC5.lt
          have HSS : Hid (∀ wx, Below w5.heap.size w5 wx → (fun (w' : World) => w'.cell? ⟨bc, 0, none⟩ = some (.string ⟨xa.toArray⟩) ∧ w'.cell? ⟨bc, 2, none⟩ = some (.string ⟨xc.toArray⟩)) wx) := fun wx hx => ⟨(HCB.out wx hx).cell 0 (by simp), (HCB.out wx hx).cell 2 (by simp)⟩
          have c1 := hC5.cell 1 (by simp)
          have HW5 : Hid (w4.alloc (.cells #[.string ⟨xa.toArray⟩, .string ⟨xb.toArray⟩, .string ⟨xc.toArray⟩] 39) = w5) := hw5
          have HBC : Hid (w4.heap.size = bc) := hbc
          clear hw5 hA5 hC5 hB4 HNr hbc
          by_cases hm : xb = P
          case neg =>
            have qm : (xb != P) = true := by simpa using hm
            have qm2 : (xb == P) = false := by simpa using hm
            have HX : Hid (genF ts = ([], 140)) := by show _ = _; rw [HF.out, HG3.out, ← HD.out, decide_eq_false hm]; rfl
            clear HD HF HG3 HPR hm
            go_upto_region 14 with fail
            rw [HW5.out, HBC.out]
            clear HW5 HBC
            go_wp2
            go_ret2
            rw [HX.out]
            exact ⟨rfl, HBz.out⟩
          have qm : (xb != P) = false := by simpa using hm
          have qm2 : (xb == P) = true := by simpa using hm
          have HD2 : Hid ((ts.drop (k + 1)).all (fun t => decide (hdD (tlD t) = P)) = ts.all (fun t => decide (hdD (tlD t) = P))) := by show _ = _; rw [← HD.out, decide_eq_true hm]; rfl
          obtain ⟨i1, hj1, hy0, hy1, hy2⟩ := info_parts infoN
          generalize hY : gHd P ts.length ++ (ts.take k).flatMap gnN = Y at *
          have HY : Hid (gHd P ts.length ++ (ts.take k).flatMap gnN = Y) := hY
          clear hY HD hm
          go_upto_region 14 with fail
          rw [HW5.out, HBC.out]
          clear HW5 HBC
          go_upto_region 16 with fail
          clear c1
          refine wp_region_K 10 (fun (w' : World) => w'.cell? ⟨bc, 0, none⟩ = some (.string ⟨xa.toArray⟩) ∧ w'.cell? ⟨bc, 2, none⟩ = some (.string ⟨xc.toArray⟩)) (by kernel_rfl) ?_
          have hHeld : (fun (w' : World) => w'.cell? ⟨bc, 0, none⟩ = some (.string ⟨xa.toArray⟩) ∧ w'.cell? ⟨bc, 2, none⟩ = some (.string ⟨xc.toArray⟩)) (World.drew _) := HSS.out _ (below_drewN (Below.refl _ _) 1)
          refine wpAnyK_take0 0 (v := ?v101) rfl (by kernel_rfl) (fun _ _ _ h => h) (Or.inl ⟨by rfl, ?hy101⟩) (fun _ => hHeld) ?_
          case hy101 => (intro w hSw; go_simp; try with_reducible rfl)
          try simp only [Act.put, List.setIfInBounds_toArray, List.set_cons_zero, List.set_cons_succ]
          refine wpAnyK_take0 1 (v := ?v102) rfl (by kernel_rfl) (fun _ _ _ h => h) (Or.inl ⟨by rfl, ?hy102⟩) (fun _ => hHeld) ?_
          case hy102 => (intro w hSw; go_simp; try with_reducible rfl)
          try simp only [Act.put, List.setIfInBounds_toArray, List.set_cons_zero, List.set_cons_succ]
          refine wpAnyK_take0 2 (v := ?v103) rfl (by kernel_rfl) (fun _ _ _ h => h) (Or.inl ⟨by rfl, ?hy103⟩) (fun _ => hHeld) ?_
          case hy103 => (intro w hSw; go_simp; try with_reducible rfl)
          try simp only [Act.put, List.setIfInBounds_toArray, List.set_cons_zero, List.set_cons_succ]
          refine wpAnyK_take 3 [4, 8, 9, 10] (v := ?v104) rfl (by kernel_rfl) (fun _ _ _ h => h) (Or.inl ⟨by rfl, ?hy104⟩) hHeld ?_
          case hy104 => (intro w hSw; (try dsimp only at hSw); go_simp; try with_reducible rfl)
          try simp only [Act.put, List.setIfInBounds_toArray, List.set_cons_zero, List.set_cons_succ]
          refine wpAnyK_take0 5 (v := ?v105) rfl (by kernel_rfl) (fun _ _ _ h => h) (Or.inl ⟨by rfl, ?hy105⟩) (fun _ => hHeld) ?_
          case hy105 => (intro w hSw; go_simp; try with_reducible rfl)
          try simp only [Act.put, List.setIfInBounds_toArray, List.set_cons_zero, List.set_cons_succ]
          refine wpAnyK_take 6 [7, 8, 9, 10] (v := ?v106) rfl (by kernel_rfl) (fun _ _ _ h => h) (Or.inl ⟨by rfl, ?hy106⟩) hHeld ?_
          case hy106 => (intro w hSw; (try dsimp only at hSw); go_simp; try with_reducible rfl)
          try simp only [Act.put, List.setIfInBounds_toArray, List.set_cons_zero, List.set_cons_succ]
          refine wpAnyK_step 4 rfl (by kernel_rfl) (fun K hK => ?_)
          go_simp
          refine (rnode_any kPro xa _).mono ?_
          rintro e w6 ⟨rfl, hB6⟩
          unfold tnV
          have HB6 : Hid (Below w5.heap.size w5 w6) := (below_drewN (Below.refl _ _) 1).trans (hB6.mono (Nat.le_refl _))
          clear hB6
          dsimp only
          refine hK.out _ _ ?hk1 ?_
          case hk1 => exact fun _ => HSS.out _ HB6.out
          have hHeld : (fun (w' : World) => w'.cell? ⟨bc, 0, none⟩ = some (.string ⟨xa.toArray⟩) ∧ w'.cell? ⟨bc, 2, none⟩ = some (.string ⟨xc.toArray⟩)) _ := HSS.out _ HB6.out
          clear hK K
          try simp only [Act.put, List.setIfInBounds_toArray, List.set_cons_zero, List.set_cons_succ]
          refine wpAnyK_step 7 rfl (by kernel_rfl) (fun K hK => ?_)
          go_simp
          refine (rnode_any kSig xc _).mono ?_
          rintro e w7 ⟨rfl, hB7⟩
          unfold tnV
          have HB7 : Hid (Below w5.heap.size w5 w7) := HB6.out.trans (hB7.mono HB6.out.size)
          clear hB7
          dsimp only
          refine hK.out _ _ ?hk2 ?_
          case hk2 => exact fun _ => HSS.out _ HB7.out
          have hHeld : (fun (w' : World) => w'.cell? ⟨bc, 0, none⟩ = some (.string ⟨xa.toArray⟩) ∧ w'.cell? ⟨bc, 2, none⟩ = some (.string ⟨xc.toArray⟩)) _ := HSS.out _ HB7.out
          clear hK K
          try simp only [Act.put, List.setIfInBounds_toArray, List.set_cons_zero, List.set_cons_succ]
          refine wpAnyK_step 8 rfl (by kernel_rfl) (fun K hK => ?_)
          go_simp
          obtain ⟨w8, hw8⟩ : ∃ x, w7.alloc (.cells #[.int .i64 7, .string ⟨#[]⟩, .string ⟨#[]⟩, .bool false, .int .i64 0, .int .i64 2, .int .i64 5, .string ⟨#[112, 114, 111, 116, 101, 99, 116, 101, 100]⟩, .string ⟨xa.toArray⟩, .bool false, .int .i64 0, .int .i64 0, .int .i64 5, .string ⟨#[115, 105, 103, 110, 97, 116, 117, 114, 101]⟩, .string ⟨xc.toArray⟩, .bool false, .int .i64 0, .int .i64 0] 37) = x := ⟨_, rfl⟩
          have hA8 : Below w7.heap.size w7 w8 := by rw [← hw8]; exact alloc_below _ _
          have HB8 : Hid (Below w5.heap.size w5 w8) := HB7.out.trans (hA8.mono HB7.out.size)
          have hR8 : NR w8 (.slice (some ⟨w7.heap.size, 0, none⟩) 3 3) (gnN t) (some ⟨w7.heap.size, 0, none⟩) 3 := by rw [← hw8]; exact three_nr w7 (gnN t) #[.int .i64 7, .string ⟨#[]⟩, .string ⟨#[]⟩, .bool false, .int .i64 0, .int .i64 2, .int .i64 5, .string ⟨#[112, 114, 111, 116, 101, 99, 116, 101, 100]⟩, .string ⟨xa.toArray⟩, .bool false, .int .i64 0, .int .i64 0, .int .i64 5, .string ⟨#[115, 105, 103, 110, 97, 116, 117, 114, 101]⟩, .string ⟨xc.toArray⟩, .bool false, .int .i64 0, .int .i64 0] (by rw [HGN.out]; rfl) 3 (by rw [HGN.out]; rfl)
          have HW8 : Hid (w7.alloc (.cells #[.int .i64 7, .string ⟨#[]⟩, .string ⟨#[]⟩, .bool false, .int .i64 0, .int .i64 2, .int .i64 5, .string ⟨#[112, 114, 111, 116, 101, 99, 116, 101, 100]⟩, .string ⟨xa.toArray⟩, .bool false, .int .i64 0, .int .i64 0, .int .i64 5, .string ⟨#[115, 105, 103, 110, 97, 116, 117, 114, 101]⟩, .string ⟨xc.toArray⟩, .bool false, .int .i64 0, .int .i64 0] 37) = w8) := hw8
          clear hw8 hA8
          rw [HW8.out]
          refine hK.out _ _ ?hk3 ?_
          case hk3 => exact fun _ => HSS.out _ HB8.out
          have hHeld : (fun (w' : World) => w'.cell? ⟨bc, 0, none⟩ = some (.string ⟨xa.toArray⟩) ∧ w'.cell? ⟨bc, 2, none⟩ = some (.string ⟨xc.toArray⟩)) _ := HSS.out _ HB8.out
          clear hK K
          try simp only [Act.put, List.setIfInBounds_toArray, List.set_cons_zero, List.set_cons_succ]
          have hO8 : NO w.heap.size w8 (.slice va Y.length vc) Y := own_below HN5.out HB8.out (Nat.le_refl _)
          have hS8 : w.heap.size ≤ w8.heap.size := Nat.le_trans HBz.out.size HB8.out.size
          have hnw : ∀ j u, (nCs (gnN t))[j]? = some u → w8.cell? ((⟨w7.heap.size, 0, none⟩ : Addr).add j) = some u := fun j u hu => by
            rcases hR8.cell with e | ⟨g9, o9, e, _, hc9⟩
            · rw [HGN.out] at e; cases e
            · cases e
              rw [Addr.add_mid]
              exact hc9 j u hu
          refine wpAnyK_step 9 rfl (by kernel_rfl) (fun K hK => ?_)
          rw [if_pos (by rfl)]
          refine wp_append_own_wide _ (.tmp 68) (.tmp 76) 29 rfl w.heap.size 37 i1 (.agg #[.int .i64 0, .string ⟨#[]⟩, .string ⟨#[]⟩, .bool false, .int .i64 0, .int .i64 0]) 6 64 Tryd.underlying29 hj1 hy0 hy1 hy2 rfl (by decide) (.slice va Y.length vc) Y.length (nCs Y) rfl hO8 ⟨w7.heap.size, 0, none⟩ 3 3 (nCs (gnN t)) rfl (by rw [nCs_length, HGN.out]; rfl) hnw (nCs_oneC _) (by unfold maxLen; omega) (by omega) hS8 ?_
          intro v9 w9 hown9 hgrow9 hnil9
          have HN9 : Hid (NO w.heap.size w9 v9 (gHd P ts.length ++ (ts.take (k + 1)).flatMap gnN)) := by
            rw [HGT2.out, ← List.append_assoc, HY.out]
            show NO _ _ _ _
            unfold NO
            rw [List.length_append, nCs_append, HGL.out]
            exact hown9
          have HB9 : Hid (Below w.heap.size w w9) := (HBz.out.trans (HB8.out.mono HBz.out.size)).grown hgrow9 hS8 (own_block hO8)
          have HS9 : Hid ((fun (w' : World) => w'.cell? ⟨bc, 0, none⟩ = some (.string ⟨xa.toArray⟩) ∧ w'.cell? ⟨bc, 2, none⟩ = some (.string ⟨xc.toArray⟩)) w9) := by
            have hc8 : Bl 39 w8 bc [.string ⟨xa.toArray⟩, .string ⟨xb.toArray⟩, .string ⟨xc.toArray⟩] := (HCB.out w8 HB8.out)
            have hc9 : Bl 39 w9 bc [.string ⟨xa.toArray⟩, .string ⟨xb.toArray⟩, .string ⟨xc.toArray⟩] := bl_grownG hc8 hgrow9 (fun e => block_apart2 hO8 hc8 (by decide) e)
            exact ⟨hc9.cell 0 (by simp), hc9.cell 2 (by simp)⟩
          clear hown9 hgrow9 hnil9 hO8 hS8 hnw hR8 HN5 HB8 HB7 HB6
          refine hK.out _ _ ?hk4 ?_
          case hk4 => exact fun _ => HS9.out
          have hHeld : (fun (w' : World) => w'.cell? ⟨bc, 0, none⟩ = some (.string ⟨xa.toArray⟩) ∧ w'.cell? ⟨bc, 2, none⟩ = some (.string ⟨xc.toArray⟩)) _ := HS9.out
          clear hK K
          try simp only [Act.put, List.setIfInBounds_toArray, List.set_cons_zero, List.set_cons_succ]
          refine wpAnyK_step 10 rfl (by kernel_rfl) (fun K hK => ?_)
          go_simp
          refine hK.out _ _ ?hk5 ?_
          case hk5 => exact (fun h => nomatch (h.symm.trans (show _ = true by kernel_rfl)))
          clear hK K
          try simp only [Act.put, List.setIfInBounds_toArray, List.set_cons_zero, List.set_cons_succ]
          refine wpAnyK_done (by kernel_rfl) ?_ _
          go_wp2
          go_roundw
          case rel => exact ⟨k + 1, by go_num, by omega, HN9.out, HB9.out, HD2.out⟩
          case measure => simp [intOf]; omega
        · have q2 : decide ((k : Int) < (ts.length : Int)) = false := decide_eq_false (by omega)
          have HX : Hid (genF ts = printF (gnF ts)) := by
            show _ = _
            rw [HF.out, HG3.out, ← hd, List.drop_eq_nil_of_le (by omega)]
            rfl
          have hY : NO w.heap.size wr (.slice va (gHd P ts.length ++ (ts.take k).flatMap gnN).length vc) (gnF ts) := by
            have := HNr.out
            rw [HGF.out]
            rwa [List.take_of_length_le (show ts.length ≤ k by omega)] at this ⊢
          have hle : (gHd P ts.length ++ (ts.take k).flatMap gnN).length = (gnF ts).length := by
            rw [HGF.out, List.take_of_length_le (show ts.length ≤ k by omega)]
          rw [hle] at hY ⊢
          obtain ⟨a9, c9, hr9⟩ := hY.nr
          obtain ⟨e9, _, _⟩ := id hr9
          cases e9
          have CP := HPR.out va vc wr hr9
          generalize printF (gnF ts) = pv at *
          obtain ⟨px, pe⟩ := pv
          dsimp only at CP
          generalize (gnF ts).length = gl at *
          clear hn hb hd HNr HF HG3 HPR hle hY hr9 hlen
          go_wp2_with fail
          refine CP.mono ?_
          clear CP
          rintro e w9 ⟨rfl, hB9⟩
          have HB9 : Hid (Below w.heap.size w w9) := HBr.out.trans (hB9.mono HBr.out.size)
          clear hB9
          go_wp2
          go_ret2
          rw [HX.out]
          exact ⟨rfl, HB9.out⟩

end Go.Proofs.YtapljedegjiliaaDoor
