import Derived.Test.YtidmjojlhcgedaaRp
namespace Go.Proofs.Ytidmjojlhcgedaa
open Go.RowKit Go.Maps
set_option maxRecDepth 100000

/-! ### bytes and numbers -/
theorem be_from (l : List UInt8) : ∀ a : Nat, l.foldl (fun n x => n * 256 + x.toNat) a = a * 256 ^ l.length + be l := by
  induction l with
  | nil => intro a; simp [be]
  | cons x r ih =>
    intro a
    unfold be
    rw [List.foldl_cons, List.foldl_cons, ih, ih, List.length_cons, Nat.pow_succ, Nat.zero_mul, Nat.zero_add, Nat.add_mul, Nat.mul_assoc, Nat.mul_comm 256, Nat.add_assoc]
theorem be_cons (x : UInt8) (r : List UInt8) : be (x :: r) = x.toNat * 256 ^ r.length + be r := by
  have := be_from r x.toNat
  unfold be at this ⊢
  rw [List.foldl_cons, Nat.zero_mul, Nat.zero_add]
  exact this
theorem tobe_succ (n N : Nat) : tobe (n + 1) N = UInt8.ofNat (N / 256 ^ n % 256) :: tobe n N := by
  unfold tobe
  rw [List.range_succ_eq_map, List.map_cons, List.map_map]
  congr 1
  refine List.map_congr_left fun i hi => ?_
  have hi := List.mem_range.1 hi
  show UInt8.ofNat (N / 256 ^ (n + 1 - 1 - (i + 1)) % 256) = _
  rw [show n + 1 - 1 - (i + 1) = n - 1 - i by omega]
theorem be_tobe : ∀ n N : Nat, be (tobe n N) = N % 256 ^ n
  | 0, N => by simp [tobe, be, Nat.mod_one]
  | n + 1, N => by
    rw [tobe_succ, be_cons, be_tobe n N, tobe_length, Nat.mod_pow_succ, UInt8.toNat_ofNat']
    rw [Nat.mod_eq_of_lt (by omega : N / 256 ^ n % 256 < 2 ^ 8), Nat.mul_comm, Nat.add_comm]
theorem be_inj : ∀ {l m : List UInt8}, l.length = m.length → be l = be m → l = m
  | [], [], _, _ => rfl
  | [], _ :: _, h, _ => by simp at h
  | _ :: _, [], h, _ => by simp at h
  | x :: r, y :: s, h, e => by
    simp only [List.length_cons, Nat.add_right_cancel_iff] at h
    rw [be_cons, be_cons, h] at e
    have h1 := be_lt r
    have h2 := be_lt s
    rw [h] at h1
    generalize 256 ^ s.length = K at *
    have hK : 0 < K := by omega
    have e1 : x.toNat = y.toNat := by
      have a1 := Nat.mul_add_div hK x.toNat (be r)
      have a2 := Nat.mul_add_div hK y.toNat (be s)
      rw [Nat.div_eq_of_lt h1] at a1
      rw [Nat.div_eq_of_lt h2] at a2
      rw [Nat.mul_comm x.toNat, Nat.mul_comm y.toNat] at e
      rw [e] at a1
      omega
    rw [e1] at e
    have e2 : be r = be s := by omega
    rw [be_inj h e2, UInt8.toNat_inj.1 e1]
theorem tobe_be (l : List UInt8) : tobe l.length (be l) = l := be_inj (by rw [tobe_length]) (by rw [be_tobe, Nat.mod_eq_of_lt (be_lt l)])

theorem s64_u64 {x : Int} (h : I64 x) : s64 (u64 x) = x := by
  have hu : ((u64 x : Nat) : Int) = x % 18446744073709551616 := by unfold u64; omega
  rw [s64_eq, hu]
  unfold I64 at h
  unfold wrap64
  omega
theorem u64_s64 {n : Nat} (h : n < 18446744073709551616) : u64 (s64 n) = n := by
  rw [s64_eq]
  unfold u64 wrap64
  omega

/-! ### what stands where -/
theorem piece_mid (a b c : List UInt8) : pieceF (a ++ b ++ c) a.length b.length = b := by
  unfold pieceF
  rw [List.append_assoc, List.drop_left, List.take_left]
theorem num_mid {a c : List UInt8} {n N nx : Nat} (hN : N < 256 ^ n) (hx : a.length = nx) : numF (a ++ tobe n N ++ c) nx n = some N := by
  have h1 := piece_mid a (tobe n N) c
  rw [tobe_length] at h1
  subst hx
  rw [numF_some (by simp [tobe_length])]
  rw [h1, be_tobe, Nat.mod_eq_of_lt hN]
theorem num_at {l a c : List UInt8} {n N nx : Nat} (e : l = a ++ tobe n N ++ c) (hN : N < 256 ^ n) (hx : a.length = nx) : numF l nx n = some N := by rw [e]; exact num_mid hN hx
theorem take_piece (l : List UInt8) (nx size : Nat) : l.take (nx + size) = l.take nx ++ pieceF l nx size := by
  unfold pieceF
  rw [List.take_add]
theorem num_piece {l : List UInt8} {nx size v : Nat} (h : numF l nx size = some v) : nx + size ≤ l.length ∧ pieceF l nx size = tobe size v ∧ v < 256 ^ size := by
  unfold numF at h
  split at h
  · rename_i hk
    have hl := pieceF_length hk
    simp only [Option.some.injEq] at h
    subst h
    refine ⟨hk, ?_, ?_⟩
    · have := tobe_be (pieceF l nx size)
      rw [hl] at this
      exact this.symm
    · have := be_lt (pieceF l nx size)
      rw [hl] at this
      exact this
  · cases h

theorem name_at {l a c : List UInt8} {p : En} {nx : Nat} (e : l = a ++ nameF p ++ c) (hn : p.1.length ≤ 1024) (hx : a.length = nx) : nameR l nx = .ok p.1 := by
  have h1 : numF l nx 2 = some p.1.length := num_at (c := p.1 ++ tobe 8 (u64 p.2) ++ c) (by rw [e]; simp [nameF]) (by omega) hx
  have h2 : pieceF l (nx + 2) p.1.length = p.1 := by
    have := piece_mid (a ++ tobe 2 p.1.length) p.1 (tobe 8 (u64 p.2) ++ c)
    rw [List.length_append, tobe_length, hx] at this
    rw [e]
    simpa [nameF] using this
  have h3 : nx + 2 + p.1.length ≤ l.length := by
    rw [e]; simp only [List.length_append, nameF_length]; omega
  unfold nameR
  rw [h1]
  dsimp only
  rw [if_neg (by omega), if_pos h3, h2]

theorem names_img {clk : Int} (hclk : I64 clk) : ∀ (Lr acc : List En) (a c l : List UInt8) (nx : Nat), l = a ++ Lr.flatMap nameF ++ c → a.length = nx → AccOk clk (acc ++ Lr) → namesR l clk Lr.length nx acc = .ok (acc ++ Lr, nx + (Lr.flatMap nameF).length)
  | [], acc, a, c, l, nx, _, _, _ => by simp [namesR]
  | p :: r, acc, a, c, l, nx, e, hx, hA => by
    have e1 : l = a ++ nameF p ++ (r.flatMap nameF ++ c) := by rw [e]; simp
    have hp := hA.nm p (by simp)
    have hn := name_at e1 hp hx
    have hnum : numF l (nx + 2 + p.1.length) 8 = some (u64 p.2) := num_at (a := a ++ (tobe 2 p.1.length ++ p.1)) (c := r.flatMap nameF ++ c) (by rw [e]; simp [nameF]) (by have := u64_lt p.2; omega) (by simp [tobe_length, hx]; omega)
    have hend := hA.ends p (by simp)
    have hi : I64 p.2 := ⟨by have := hclk.1; omega, hend.2⟩
    rw [List.length_cons]
    unfold namesR
    rw [hn]
    dsimp only
    have hord : ¬ (acc ≠ [] ∧ bytesBefore (lastN acc) p.1 = false) := by
      rintro ⟨h0, h1⟩
      obtain ⟨ys, q, rfl⟩ : ∃ ys q, acc = ys ++ [q] := ⟨acc.dropLast, acc.getLast h0, (List.dropLast_concat_getLast h0).symm⟩
      rw [lastN_snoc] at h1
      have := (List.pairwise_append.1 hA.srt).2.2 q (by simp) p (by simp)
      rw [h1] at this; cases this
    rw [if_neg hord, hnum]
    dsimp only
    rw [s64_u64 hi, if_neg (by omega)]
    have := names_img hclk r (acc ++ [p]) (a ++ nameF p) c l (nx + 2 + p.1.length + 8) (by rw [e]; simp) (by rw [List.length_append, nameF_length, hx]; omega) (by simpa using hA)
    rw [show acc ++ [(p.1, p.2)] = acc ++ [p] from rfl, this]
    simp [nameF_length]
    omega

theorem BkOk.acc {b : Bk} (h : BkOk b) : AccOk b.clk b.L := ⟨h.srt, h.nm, h.ends⟩

/-- An image is read back. -/
theorem open_img {b : Bk} (h : BkOk b) : openR (imgF b) = .ok b := by
  obtain ⟨hs, c, L⟩ := b
  have hc : I64 c := h.clk
  have hL := h.len
  have hno := h.none
  simp only at hL hno
  obtain ⟨f, hf⟩ : ∃ f : Nat, f = (if hs then 1 else 0) := ⟨_, rfl⟩
  have hfb : (f == 1) = hs := by cases hs <;> simp [hf]
  have hf2 : f ≤ 1 := by cases hs <;> simp [hf]
  obtain ⟨bd, hbd⟩ : ∃ bd, bodyF ⟨hs, c, L⟩ = bd := ⟨_, rfl⟩
  have hbd2 : bd = [82, 1] ++ tobe 1 f ++ tobe 8 (u64 c) ++ tobe 4 L.length ++ L.flatMap nameF := by rw [← hbd, hf]; rfl
  have hl : imgF ⟨hs, c, L⟩ = bd ++ tobe 8 (sumF bd) := by rw [← hbd]; rfl
  generalize imgF ⟨hs, c, L⟩ = l at hl ⊢
  have t82 : tobe 1 82 = [82] := by decide
  have t1 : tobe 1 1 = [1] := by decide
  obtain ⟨T, hT⟩ : ∃ T, tobe 8 (sumF bd) = T := ⟨_, rfl⟩
  rw [hT] at hl
  have hu := u64_lt c
  have hT8 : T.length = 8 := by rw [← hT, tobe_length]
  have hbl : bd.length = 15 + (L.flatMap nameF).length := by rw [hbd2]; simp [tobe_length]; omega
  have e0 : numF l 0 1 = some 82 := num_at (a := []) (c := [1] ++ tobe 1 f ++ tobe 8 (u64 c) ++ tobe 4 L.length ++ L.flatMap nameF ++ T) (by rw [hl, t82, hbd2]; simp) (by omega) rfl
  have e1 : numF l 1 1 = some 1 := num_at (a := [82]) (c := tobe 1 f ++ tobe 8 (u64 c) ++ tobe 4 L.length ++ L.flatMap nameF ++ T) (by rw [hl, t1, hbd2]; simp) (by omega) rfl
  have e2 : numF l 2 1 = some f := num_at (a := [82, 1]) (c := tobe 8 (u64 c) ++ tobe 4 L.length ++ L.flatMap nameF ++ T) (by rw [hl, hbd2]; simp) (by omega) rfl
  have e3 : numF l 3 8 = some (u64 c) := num_at (a := [82, 1] ++ tobe 1 f) (c := tobe 4 L.length ++ L.flatMap nameF ++ T) (by rw [hl, hbd2]; simp) (by omega) (by simp [tobe_length])
  have e4 : numF l 11 4 = some L.length := num_at (a := [82, 1] ++ tobe 1 f ++ tobe 8 (u64 c)) (c := L.flatMap nameF ++ T) (by rw [hl, hbd2]; simp) (by omega) (by simp [tobe_length])
  have hH : headR l = .ok (hs, c) := by
    unfold headR
    rw [e0]; dsimp only; rw [if_neg (by decide), e1]; dsimp only; rw [if_neg (by decide), e2]; dsimp only; rw [if_neg (by omega), e3]; dsimp only
    rw [if_neg ?_, hfb, s64_u64 hc]
    rintro ⟨h0, h1⟩
    have : hs = false := by rw [← hfb, h0]; rfl
    exact h1 (by rw [(hno this).2]; rfl)
  have hN := names_img hc L [] ([82, 1] ++ tobe 1 f ++ tobe 8 (u64 c) ++ tobe 4 L.length) T l 15 (by rw [hl, hbd2]) (by simp [tobe_length]) (by simpa using h.acc)
  have hTb : tableR l hs c = .ok (L, 15 + (L.flatMap nameF).length) := by
    unfold tableR
    rw [e4]; dsimp only
    rw [if_neg ?_]
    · simpa using hN
    · rintro (h0 | ⟨h0, h1⟩)
      · omega
      · rw [(hno h1).1] at h0; simp at h0
  have htk : l.take (15 + (L.flatMap nameF).length) = bd := by rw [hl, ← hbl, List.take_left]
  have hs64 : sumF bd < 256 ^ 8 := sumF_lt bd
  have e5 : numF l (15 + (L.flatMap nameF).length) 8 = some (sumF bd) := num_at (a := bd) (c := []) (by rw [hl, hT]; simp) hs64 hbl
  have hE : endR l (15 + (L.flatMap nameF).length) = .ok () := by
    unfold endR
    rw [e5]; dsimp only
    rw [htk, if_neg (fun h => h rfl), if_pos ?_]
    rw [hl, List.length_append, hT8]; omega
  unfold openR
  rw [hH]; dsimp only; rw [hTb]; dsimp only; rw [hE]

theorem names_rd {l : List UInt8} {clk : Int} : ∀ {n nx : Nat} {acc L : List En} {k : Nat}, nx ≤ l.length → namesR l clk n nx acc = .ok (L, k) → ∃ M, L = acc ++ M ∧ M.length = n ∧ k ≤ l.length ∧ l.take k = l.take nx ++ M.flatMap nameF
  | 0, _, _, _, _, hx, e => by cases e; exact ⟨[], by simp, rfl, hx, by simp⟩
  | n + 1, nx, acc, L, k, hx, e => by
    unfold namesR at e
    split at e
    · cases e
    rename_i nm hnm
    split at e
    · cases e
    split at e
    · cases e
    rename_i x hx2
    split at e
    · cases e
    obtain ⟨h1, h2, h3⟩ := num_piece hx2
    obtain ⟨M, hL, hM, hk, ht⟩ := names_rd (by omega) e
    refine ⟨(nm, s64 x) :: M, by rw [hL]; simp, by simp [hM], hk, ?_⟩
    rw [ht, List.flatMap_cons, take_piece, h2]
    unfold nameR at hnm
    split at hnm
    · cases hnm
    rename_i s hs
    split at hnm
    · cases hnm
    split at hnm
    · rename_i hk2
      simp only [Except.ok.injEq] at hnm
      have hl := pieceF_length hk2
      obtain ⟨g1, g2, g3⟩ := num_piece hs
      have : nm.length = s := by rw [← hnm, hl]
      rw [this, take_piece, take_piece, g2, hnm]
      unfold nameF
      rw [u64_s64 (by omega)]
      simp [this]
    · cases hnm

/-- What is taken is the image of its book. -/
theorem img_open {l : List UInt8} {b : Bk} (e : openR l = .ok b) : BkOk b ∧ imgF b = l := by
  unfold openR at e
  split at e
  · cases e
  rename_i h c hH
  split at e
  · cases e
  rename_i L k hT
  split at e
  · cases e
  rename_i hE
  cases e
  have hci := headR_clk hH
  unfold headR at hH
  split at hH
  · cases hH
  rename_i a ha
  split at hH
  · cases hH
  rename_i b0
  split at hH
  · cases hH
  rename_i v hv
  split at hH
  · cases hH
  rename_i b1
  split at hH
  · cases hH
  rename_i f hf
  split at hH
  · cases hH
  rename_i b2
  split at hH
  · cases hH
  rename_i x hx
  split at hH
  · cases hH
  rename_i b3
  simp only [Except.ok.injEq, Prod.mk.injEq] at hH
  obtain ⟨rfl, rfl⟩ := hH
  unfold tableR at hT
  split at hT
  · cases hT
  rename_i n hn
  split at hT
  · cases hT
  rename_i b4
  obtain ⟨p0, q0, r0⟩ := num_piece ha
  obtain ⟨p1, q1, r1⟩ := num_piece hv
  obtain ⟨p2, q2, r2⟩ := num_piece hf
  obtain ⟨p3, q3, r3⟩ := num_piece hx
  obtain ⟨p4, q4, r4⟩ := num_piece hn
  obtain rfl : a = 82 := by omega
  obtain rfl : v = 1 := by omega
  have hacc : AccOk (s64 x) [] := ⟨List.Pairwise.nil, by simp, by simp⟩
  obtain ⟨hA, hlen⟩ := namesR_ok hacc hT
  obtain ⟨M, hM, hMl, hk, ht⟩ := names_rd (by omega) hT
  simp only [List.nil_append] at hM
  subst hM
  simp only [List.length_nil, Nat.zero_add] at hlen
  unfold endR at hE
  split at hE
  · cases hE
  rename_i s hs
  split at hE
  · cases hE
  rename_i b5
  split at hE
  · rename_i b6
    obtain ⟨p5, q5, r5⟩ := num_piece hs
    have hsum : s = sumF (l.take k) := by
      by_cases h0 : s = sumF (l.take k)
      · exact h0
      · exact absurd h0 b5
    have h15 : l.take 15 = [82, 1] ++ tobe 1 f ++ tobe 8 x ++ tobe 4 n := by
      rw [show 15 = 0 + 1 + 1 + 1 + 8 + 4 from rfl, take_piece, take_piece, take_piece, take_piece, take_piece, q0, q1, q2, q3, q4]
      rfl
    have hff : (if (f == 1) = true then 1 else 0) = f := by
      have : f = 0 ∨ f = 1 := by omega
      rcases this with rfl | rfl <;> rfl
    have hbd : bodyF ⟨f == 1, s64 x, L⟩ = l.take k := by
      rw [ht, h15]
      unfold bodyF headF
      simp only
      rw [hff, u64_s64 (by omega), hMl]
    constructor
    · refine ⟨hA.srt, hA.nm, hA.ends, ?_, hci, ?_⟩
      · show L.length ≤ 4096
        rw [hMl]
        omega
      · intro h0
        have hf0 : f = 0 := by
          have : f = 0 ∨ f = 1 := by omega
          rcases this with rfl | rfl
          · rfl
          · cases h0
        constructor
        · have : n = 0 := by
            by_cases hn0 : n = 0
            · exact hn0
            · exact absurd (.inr ⟨by omega, h0⟩) b4
          exact List.eq_nil_of_length_eq_zero (by rw [hMl, this])
        · have : x = 0 := by
            by_cases hx0 : x = 0
            · exact hx0
            · exact absurd ⟨hf0, hx0⟩ b3
          show s64 x = 0
          rw [this]; rfl
    · unfold imgF
      rw [hbd, ← hsum, ← q5, ← take_piece, b6, List.take_length]
  · cases hE

/-! ### cuts, what stands behind, other bytes -/
theorem piece_pre {l : List UInt8} {nx size : Nat} (h : nx + size ≤ l.length) (t : List UInt8) : pieceF (l ++ t) nx size = pieceF l nx size := by
  unfold pieceF
  rw [List.drop_append_of_le_length (by omega), List.take_append_of_le_length (by rw [List.length_drop]; omega)]
theorem num_pre {l : List UInt8} {nx size v : Nat} (h : numF l nx size = some v) (t : List UInt8) : numF (l ++ t) nx size = some v := by
  have hk := (num_piece h).1
  rw [numF_some hk] at h
  rw [numF_some (by rw [List.length_append]; omega), piece_pre hk]
  exact h
theorem head_pre {l : List UInt8} {x : Bool × Int} (h : headR l = .ok x) (t : List UInt8) : headR (l ++ t) = .ok x := by
  unfold headR at h ⊢
  split at h
  · cases h
  rename_i h0
  rw [num_pre h0 t]
  dsimp only
  split at h
  · cases h
  rename_i b0
  rw [if_neg b0]
  split at h
  · cases h
  rename_i h1
  rw [num_pre h1 t]
  dsimp only
  split at h
  · cases h
  rename_i b1
  rw [if_neg b1]
  split at h
  · cases h
  rename_i h2
  rw [num_pre h2 t]
  dsimp only
  split at h
  · cases h
  rename_i b2
  rw [if_neg b2]
  split at h
  · cases h
  rename_i h3
  rw [num_pre h3 t]
  exact h
theorem name_pre {l nm : List UInt8} {nx : Nat} (h : nameR l nx = .ok nm) (t : List UInt8) : nameR (l ++ t) nx = .ok nm := by
  unfold nameR at h ⊢
  split at h
  · cases h
  rename_i h0
  rw [num_pre h0 t]
  dsimp only
  split at h
  · cases h
  rename_i b0
  rw [if_neg b0]
  split at h
  · rename_i hk
    rw [if_pos (by rw [List.length_append]; omega), piece_pre hk]
    exact h
  · cases h
theorem names_pre {l : List UInt8} {clk : Int} (t : List UInt8) : ∀ {n nx : Nat} {acc : List En} {x : List En × Nat}, namesR l clk n nx acc = .ok x → namesR (l ++ t) clk n nx acc = .ok x
  | 0, _, _, _, e => e
  | n + 1, nx, acc, x, e => by
    unfold namesR at e ⊢
    split at e
    · cases e
    rename_i h0
    rw [name_pre h0 t]
    dsimp only
    split at e
    · cases e
    rename_i b0
    rw [if_neg b0]
    split at e
    · cases e
    rename_i h1
    rw [num_pre h1 t]
    dsimp only
    split at e
    · cases e
    rename_i b1
    rw [if_neg b1]
    exact names_pre t e
theorem table_pre {l : List UInt8} {h : Bool} {c : Int} {x : List En × Nat} (e : tableR l h c = .ok x) (t : List UInt8) : tableR (l ++ t) h c = .ok x := by
  unfold tableR at e ⊢
  split at e
  · cases e
  rename_i h0
  rw [num_pre h0 t]
  dsimp only
  split at e
  · cases e
  rename_i b0
  rw [if_neg b0]
  exact names_pre t e

theorem end_ok {l : List UInt8} {k : Nat} (e : endR l k = .ok ()) : k + 8 = l.length ∧ numF l k 8 = some (sumF (l.take k)) := by
  unfold endR at e
  split at e
  · cases e
  rename_i s hs
  split at e
  · cases e
  rename_i b0
  split at e
  · rename_i b1
    refine ⟨b1, ?_⟩
    rw [hs]
    by_cases h0 : s = sumF (l.take k)
    · rw [h0]
    · exact absurd h0 b0
  · cases e

/-- Nothing longer is taken. -/
theorem open_longer {l t : List UInt8} {b : Bk} (e : openR l = .ok b) (ht : t ≠ []) : openR (l ++ t) = .error l.length := by
  unfold openR at e ⊢
  split at e
  · cases e
  rename_i h c hH
  rw [head_pre hH t]
  dsimp only
  split at e
  · cases e
  rename_i L k hT
  rw [table_pre hT t]
  dsimp only
  split at e
  · cases e
  rename_i hE
  obtain ⟨h1, h2⟩ := end_ok hE
  have : endR (l ++ t) k = .error l.length := by
    unfold endR
    rw [num_pre h2 t]
    dsimp only
    rw [List.take_append_of_le_length (by omega), if_neg (fun h => h rfl), if_neg ?_, h1]
    rw [List.length_append]
    have : 0 < t.length := by cases t; exact absurd rfl ht; simp
    omega
  rw [this]

/-- No shorter beginning is taken. -/
theorem open_shorter {l : List UInt8} {b : Bk} (e : openR l = .ok b) {n : Nat} (hn : n < l.length) : ∀ b', openR (l.take n) ≠ .ok b' := by
  intro b' h
  have h2 := open_longer h (t := l.drop n) (by intro h0; have := congrArg List.length h0; rw [List.length_drop] at this; simp at this; omega)
  rw [List.take_append_drop, e] at h2
  cases h2

theorem num_end {l : List UInt8} {nx size : Nat} : numF l nx size = none → ¬ nx + size ≤ l.length := by
  unfold numF
  split
  · intro h; cases h
  · intro _; assumption

theorem names_place {l : List UInt8} {clk : Int} : ∀ {n nx : Nat} {acc : List En} {k : Nat}, nx ≤ l.length → namesR l clk n nx acc = .error k → k ≤ l.length
  | 0, _, _, _, _, e => by cases e
  | n + 1, nx, acc, k, hx, e => by
    unfold namesR at e
    split at e
    · rename_i j hj
      cases e
      unfold nameR at hj
      split at hj
      · cases hj; exact hx
      rename_i s hs
      have := (num_piece hs).1
      split at hj
      · cases hj; exact hx
      split at hj
      · cases hj
      · cases hj; exact this
    rename_i nm hnm
    have hl := (nameR_len hnm).2
    split at e
    · cases e; omega
    split at e
    · cases e; omega
    rename_i x hx2
    have := (num_piece hx2).1
    split at e
    · cases e; omega
    exact names_place (by omega) e

/-- The place lies in the bytes. -/
theorem open_place {l : List UInt8} {k : Nat} (e : openR l = .error k) : k ≤ l.length := by
  unfold openR at e
  split at e
  · rename_i j hj
    cases e
    unfold headR at hj
    split at hj
    · cases hj; omega
    rename_i h0
    have p0 := (num_piece h0).1
    split at hj
    · cases hj; omega
    split at hj
    · cases hj; omega
    rename_i h1
    have p1 := (num_piece h1).1
    split at hj
    · cases hj; omega
    split at hj
    · cases hj; omega
    rename_i h2
    have p2 := (num_piece h2).1
    split at hj
    · cases hj; omega
    split at hj
    · cases hj; omega
    rename_i h3
    have p3 := (num_piece h3).1
    split at hj
    · cases hj; omega
    · cases hj
  rename_i h c hH
  have h11 : 11 ≤ l.length := by
    unfold headR at hH
    split at hH
    · cases hH
    split at hH
    · cases hH
    split at hH
    · cases hH
    split at hH
    · cases hH
    split at hH
    · cases hH
    split at hH
    · cases hH
    split at hH
    · cases hH
    rename_i h3
    exact (num_piece h3).1
  split at e
  · rename_i j hj
    cases e
    unfold tableR at hj
    split at hj
    · cases hj; exact h11
    rename_i n hn
    split at hj
    · cases hj; exact h11
    · exact names_place (num_piece hn).1 hj
  rename_i L k2 hT
  have hk2 : k2 ≤ l.length := by
    unfold tableR at hT
    split at hT
    · cases hT
    rename_i n hn
    split at hT
    · cases hT
    · obtain ⟨_, _, _, hk, _⟩ := names_rd (num_piece hn).1 hT
      exact hk
  split at e
  · rename_i j hj
    cases e
    unfold endR at hj
    split at hj
    · cases hj; exact hk2
    rename_i s hs
    have := (num_piece hs).1
    split at hj
    · cases hj; exact hk2
    split at hj
    · cases hj
    · cases hj; exact this
  · cases e

end Go.Proofs.Ytidmjojlhcgedaa
