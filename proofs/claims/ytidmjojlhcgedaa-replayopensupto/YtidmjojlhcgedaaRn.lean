import Derived.Test.YtidmjojlhcgedaaRm
namespace Go.Proofs.Ytidmjojlhcgedaa
open Go.RowKit Go.Maps
set_option maxRecDepth 100000

theorem less_before : ∀ a b : List UInt8, Op.bytesLess a b = bytesBefore a b
  | [], [] => rfl
  | [], _ :: _ => rfl
  | _ :: _, [] => rfl
  | x :: a, y :: b => by simp [Op.bytesLess, bytesBefore, less_before a b]

/-- The name ahead. -/
def lastN (acc : List En) : List UInt8 := match acc.getLast? with | some p => p.1 | none => []

def namesR (l : List UInt8) (clk : Int) : Nat → Nat → List En → Except Nat (List En × Nat)
  | 0, at_, acc => .ok (acc, at_)
  | n + 1, at_, acc =>
    match nameR l at_ with
    | .error k => .error k
    | .ok nm => if acc ≠ [] ∧ bytesBefore (lastN acc) nm = false then .error (at_ + 2) else
      match numF l (at_ + 2 + nm.length) 8 with
      | none => .error (at_ + 2 + nm.length)
      | some e => if s64 e < clk then .error (at_ + 2 + nm.length) else namesR l clk n (at_ + 2 + nm.length + 8) (acc ++ [(nm, s64 e)])

def tableR (l : List UInt8) (h : Bool) (clk : Int) : Except Nat (List En × Nat) :=
  match numF l 11 4 with
  | none => .error 11
  | some n => if 4096 < n ∨ (0 < n ∧ h = false) then .error 11 else namesR l clk n 15 []

/-- The names that have been read. -/
structure AccOk (clk : Int) (acc : List En) : Prop where
  srt : Srt acc
  nm : ∀ p ∈ acc, p.1.length ≤ 1024
  ends : ∀ p ∈ acc, clk ≤ p.2 ∧ p.2 ≤ 9223372036854775807

theorem s64_eq (n : Nat) : s64 n = wrap64 (n : Int) := by
  show IntKind.i64.wrap (n : Int) = _
  simp [wrap64, IntKind.wrap, IntKind.bits, IntKind.signed]
  split <;> omega
theorem s64_bounds (n : Nat) : I64 (s64 n) := by
  unfold s64 I64
  have h0 : wrap64 (n : Int) = IntKind.i64.wrap (n : Int) := by
    simp [wrap64, IntKind.wrap, IntKind.bits, IntKind.signed]
    split <;> omega
  have := wrap64_wf (n : Int)
  rw [h0] at this
  simp only [Lit.wf, Bool.and_eq_true, decide_eq_true_eq] at this
  rw [show IntKind.i64.min = -9223372036854775808 from by decide, show IntKind.i64.max = 9223372036854775807 from by decide] at this
  exact this

theorem last_top : ∀ {acc : List En}, Srt acc → ∀ p ∈ acc, p.1 = lastN acc ∨ bytesBefore p.1 (lastN acc) = true := by
  intro acc h p hp
  unfold lastN
  cases hl : acc.getLast? with
  | none => rw [List.getLast?_eq_none_iff.1 hl] at hp; simp at hp
  | some q =>
    obtain ⟨ys, rfl⟩ := List.getLast?_eq_some_iff.1 hl
    dsimp only
    rcases List.mem_append.1 hp with h1 | h1
    · exact .inr ((List.pairwise_append.1 h).2.2 p h1 q (by simp))
    · simp only [List.mem_singleton] at h1; subst h1; exact .inl rfl

theorem before_all {acc : List En} (h : Srt acc) {nm : List UInt8} (hn : acc = [] ∨ bytesBefore (lastN acc) nm = true) : ∀ p ∈ acc, bytesBefore p.1 nm = true := by
  intro p hp
  rcases hn with rfl | hn
  · simp at hp
  · rcases last_top h p hp with e | e
    · rw [e]; exact hn
    · exact bb_trans e hn

theorem ins_last {e : Int} {nm : List UInt8} : ∀ {acc : List En}, (∀ p ∈ acc, bytesBefore p.1 nm = true) → insF nm e acc = acc ++ [(nm, e)]
  | [], _ => rfl
  | p :: r, h => by
    unfold insF
    rw [if_neg (by rw [bb_asymm (h p (by simp))]; simp), ins_last (fun q hq => h q (by simp [hq]))]
    rfl
theorem has_last {nm : List UInt8} {acc : List En} (h : ∀ p ∈ acc, bytesBefore p.1 nm = true) : hasF nm acc = false := by
  unfold hasF
  rw [List.any_eq_false]
  intro p hp
  simpa using bb_ne (h p hp)
theorem AccOk.snoc {clk : Int} {acc : List En} (h : AccOk clk acc) {nm : List UInt8} {e : Int} (hb : ∀ p ∈ acc, bytesBefore p.1 nm = true) (hn : nm.length ≤ 1024) (he : clk ≤ e ∧ e ≤ 9223372036854775807) : AccOk clk (acc ++ [(nm, e)]) :=
  ⟨List.pairwise_append.2 ⟨h.srt, by simp, fun p hp q hq => by simp only [List.mem_singleton] at hq; subst hq; exact hb p hp⟩,
   fun p hp => by rcases List.mem_append.1 hp with h1 | h1; exact h.nm p h1; simp only [List.mem_singleton] at h1; subst h1; exact hn,
   fun p hp => by rcases List.mem_append.1 hp with h1 | h1; exact h.ends p h1; simp only [List.mem_singleton] at h1; subst h1; exact he⟩
theorem lastN_snoc (acc : List En) (p : En) : lastN (acc ++ [p]) = p.1 := by simp [lastN]
theorem nameR_len {l : List UInt8} {nx : Nat} {nm : List UInt8} (h : nameR l nx = .ok nm) : nm.length ≤ 1024 ∧ nx + 2 + nm.length ≤ l.length := by
  unfold nameR at h
  split at h
  · cases h
  split at h
  · cases h
  split at h
  · rename_i hs hk
    cases h
    rw [pieceF_length hk]
    omega
  · cases h

theorem namesR_ok {l : List UInt8} {clk : Int} : ∀ {n at_ : Nat} {acc : List En} {L : List En} {k : Nat}, AccOk clk acc → namesR l clk n at_ acc = .ok (L, k) → AccOk clk L ∧ L.length = acc.length + n
  | 0, _, _, _, _, h, e => by cases e; exact ⟨h, rfl⟩
  | n + 1, at_, acc, L, k, h, e => by
    unfold namesR at e
    split at e
    · cases e
    rename_i nm hnm
    split at e
    · cases e
    rename_i hb
    split at e
    · cases e
    rename_i x hx
    split at e
    · cases e
    rename_i hc
    have hb' : acc = [] ∨ bytesBefore (lastN acc) nm = true := by
      by_cases h0 : acc = []
      · exact .inl h0
      · right
        cases hq : bytesBefore (lastN acc) nm
        · exact absurd ⟨h0, hq⟩ hb
        · rfl
    have := namesR_ok (h.snoc (before_all h.srt hb') (nameR_len hnm).1 ⟨by omega, (s64_bounds x).2⟩) e
    rw [List.length_append] at this
    exact ⟨this.1, by have := this.2; simp at this; omega⟩

/-- What names leaves. -/
def namesP (w : World) (rb bb mb : Nat) (ao : Option Addr) (cap : Nat) (l : List UInt8) (h : Bool) (c : Int) (e : Ending) (w' : World) : Except Nat (List En × Nat) → Prop
  | .error k => e = .returned (.bool false) ∧ ∃ nx, Rdr w' rb ao cap l k nx ∧ Chf (fun k => k = rb ∨ k = bb ∨ k = mb) w w'
  | .ok (L, at_) => e = .returned (.bool true) ∧ (∃ p, Rdr w' rb ao cap l p at_) ∧ Bok w' bb mb ⟨h, c, L⟩ ∧ Chf (fun k => k = rb ∨ k = bb ∨ k = mb) w w'

set_option maxHeartbeats 8000000 in
theorem names_any (rb bb mb : Nat) (ao : Option Addr) (cap : Nat) (l : List UInt8) (h : Bool) (c : Int) (w : World) (hR0 : Rdr w rb ao cap l 3 11) (hb : Bok w bb mb ⟨h, c, []⟩) (hne : rb ≠ bb) (hnm : rb ≠ mb) (hao : l ≠ [] → ∀ a, ao = some a → a.block ≠ bb ∧ a.block ≠ mb) (hl : l.length ≤ 1000000000000) (_ : I64 c) :
    Calls Try.prog 37 #[.pointer (some ⟨rb, 0, none⟩), .pointer (some ⟨bb, 0, none⟩)] w fun e w' => namesP w rb bb mb ao cap l h c e w' (tableR l h c) := by
  have hRh : Hid (Rdr w rb ao cap l 3 11) := hR0
  have hBh : Hid (Bok w bb mb ⟨h, c, []⟩) := hb
  clear hR0 hb
  by_cases k0 : 11 + 4 ≤ l.length
  case neg =>
    have HP : Hid (tableR l h c = .error 11) := by show _ = _; unfold tableR; rw [numF_none k0]
    generalize tableR l h c = R at HP ⊢
    have N1 := number_no rb ao cap l 3 11 4 w hRh.out hl (by omega) (by omega)
    clear k0 hl
    go_enter Try.func37, Try.ntmps37
    go_wp2_with fail
    refine N1.mono ?_
    rintro e w1 ⟨rfl, hR1, hC1⟩
    go_wp2_with fail
    go_ret
    rw [HP.out]
    exact ⟨rfl, _, hR1, hC1.weak (fun k h => .inl h)⟩
  have N1 := number_ok rb ao cap l 3 11 4 w hRh.out hl k0 (by omega)
  have E0 := numF_some k0
  have L0 := be_lt (pieceF l 11 4)
  rw [pieceF_length k0] at L0
  generalize be (pieceF l 11 4) = N at N1 E0 L0
  by_cases b0 : 4096 < N
  case pos =>
    have HP : Hid (tableR l h c = .error 11) := by show _ = _; unfold tableR; rw [E0]; exact if_pos (.inl b0)
    generalize tableR l h c = R at HP ⊢
    have q : decide ((N : Int) > 4096) = true := by simp; omega
    clear E0 k0 hl
    go_enter Try.func37, Try.ntmps37
    go_wp2_with fail
    refine N1.mono ?_
    rintro e w1 ⟨rfl, hR1, hC1⟩
    go_wp2_with fail
    go_ret
    rw [HP.out]
    exact ⟨rfl, _, hR1, hC1.weak (fun k h => .inl h)⟩
  have q : decide ((N : Int) > 4096) = false := by simp; omega
  by_cases b1 : 0 < N ∧ h = false
  case pos =>
    have HP : Hid (tableR l h c = .error 11) := by show _ = _; unfold tableR; rw [E0]; exact if_pos (.inr b1)
    generalize tableR l h c = R at HP ⊢
    obtain ⟨b1, rfl⟩ := b1
    have q1 : decide ((N : Int) > 0) = true := by simp; omega
    have hBx := hBh.out
    clear E0 k0 hl hBh
    go_enter Try.func37, Try.ntmps37
    go_wp2_with fail
    refine N1.mono ?_
    rintro e w1 ⟨rfl, hR1, hC1⟩
    have hB1 := hBx.chf hC1 (fun e => hne e.symm) (fun e => hnm e.symm)
    have d2 := hB1.cells.cell 2 (by simp)
    simp only [List.getElem_cons_zero, List.getElem_cons_succ] at d2
    clear hB1 hBx
    go_wp2_with fail
    go_ret
    rw [HP.out]
    exact ⟨rfl, _, hR1, hC1.weak (fun k h => .inl h)⟩
  have HP : Hid (tableR l h c = namesR l c N 15 []) := by show _ = _; unfold tableR; rw [E0]; exact if_neg (fun hx => hx.elim (fun h => by omega) b1)
  generalize tableR l h c = R at HP ⊢
  have hBx := hBh.out
  have hLim : l.length ≤ 1000000000000 := hl
  have hlh : Hid (l.length ≤ 1000000000000) := hl
  clear E0 k0 hl
  have qN : N = 0 ∨ h = true := by
    by_cases h0 : N = 0
    · exact .inl h0
    · right; cases h with
      | true => rfl
      | false => exact absurd ⟨by omega, rfl⟩ b1
  clear b1 hLim
  by_cases hN0 : N = 0
  case pos =>
    subst hN0
    have q1 : decide (((0 : Nat) : Int) > 0) = false := by simp
    clear qN hBh
    go_enter Try.func37, Try.ntmps37
    go_wp2_with fail
    refine N1.mono ?_
    rintro e w1 ⟨rfl, hR1, hC1⟩
    have hB1 := hBx.chf hC1 (fun e => hne e.symm) (fun e => hnm e.symm)
    have hB1h : Hid (Bok w1 bb mb ⟨h, c, []⟩) := hB1
    have hR1h : Hid (Rdr w1 rb ao cap l 11 (11 + 4)) := hR1
    clear hB1 hBx hR1
    go_wp2_with fail
    refine wp_loop_rounds 1 ?_
    rw [rounds_succ]
    go_wp2_with fail
    go_ret
    rw [HP.out]
    exact ⟨rfl, ⟨_, hR1h.out⟩, hB1h.out, hC1.weak (fun k h => .inl h)⟩
  obtain rfl : h = true := qN.resolve_left hN0
  have q1 : decide ((N : Int) > 0) = true := by simp; omega
  clear qN hBh
  go_enter Try.func37, Try.ntmps37
  go_wp2_with fail
  refine N1.mono ?_
  rintro e w1 ⟨rfl, hR1, hC1⟩
  have hB1 := hBx.chf hC1 (fun e => hne e.symm) (fun e => hnm e.symm)
  have hB1h : Hid (Bok w1 bb mb ⟨true, c, []⟩) := hB1
  have hR1h : Hid (Rdr w1 rb ao cap l 11 (11 + 4)) := hR1
  have hC1h : Hid (Chf (fun k => k = rb ∨ k = bb ∨ k = mb) w w1) := hC1.weak (fun k h => .inl h)
  have d2 := hB1.cells.cell 2 (by simp)
  simp only [List.getElem_cons_zero, List.getElem_cons_succ] at d2
  clear hB1 hBx hR1 hC1 N1
  go_wp2_with fail
  go_loopw [7, 35] (fun s7 s wr => ∃ (acc : List En) (at_ p : Nat), s = .int .u64 (acc.length : Int) ∧ s7 = .string ⟨(lastN acc).toArray⟩ ∧ acc.length ≤ N ∧ AccOk c acc ∧ namesR l c (N - acc.length) at_ acc = R ∧ Rdr wr rb ao cap l p at_ ∧ Bok wr bb mb ⟨true, c, acc⟩ ∧ Chf (fun k => k = rb ∨ k = bb ∨ k = mb) w wr) (fun _ s _ => N - (intOf s).toNat)
  case atStart => exact ⟨[], 15, 11, rfl, rfl, Nat.zero_le _, ⟨List.Pairwise.nil, by simp, by simp⟩, HP.out.symm, hR1h.out, hB1h.out, hC1h.out⟩
  case round =>
    obtain ⟨acc, at_, p, rfl, rfl, hk, hacc, hnr, hR, hB, hC⟩ := hrel
    have hRr : Hid (Rdr wr rb ao cap l p at_) := hR
    have hBr : Hid (Bok wr bb mb ⟨true, c, acc⟩) := hB
    have hCr : Hid (Chf (fun k => k = rb ∨ k = bb ∨ k = mb) w wr) := hC
    have hA : Hid (AccOk c acc) := hacc
    have hNR : Hid (namesR l c (N - acc.length) at_ acc = R) := hnr
    clear hR hB hC hacc hnr
    obtain ⟨K, hK⟩ : ∃ K, acc.length = K := ⟨_, rfl⟩
    have hKh : Hid (acc.length = K) := hK
    rw [hK] at hk ⊢
    clear hK
    by_cases hlt : K < N
    · obtain ⟨m, hm⟩ : ∃ m, N - acc.length = m + 1 := ⟨N - acc.length - 1, by rw [hKh.out]; omega⟩
      have hnr := hNR.out
      rw [hm] at hnr
      have NM := name_any rb ao cap l p at_ wr hRr.out hlh.out
      cases hn : nameR l at_ with
      | error k =>
        rw [hn] at NM
        have hR2 : Hid (R = .error k) := by show _ = _; rw [← hnr]; unfold namesR; rw [hn]
        clear hn hnr hm hNR
        go_wp2_with fail
        refine NM.mono ?_
        rintro e w2 ⟨rfl, nx', hR3, hC3⟩
        go_wp2_with fail
        go_ret
        rw [hR2.out]
        exact ⟨rfl, _, hR3, hCr.out.trans (hC3.weak (fun k h => .inl h))⟩
      | ok nm =>
        rw [hn] at NM
        have hnl := nameR_len hn
        unfold namesR at hnr
        rw [hn] at hnr
        dsimp only at hnr
        clear hn
        obtain ⟨ah, hah⟩ : ∃ ah, lastN acc = ah := ⟨_, rfl⟩
        have hahh : Hid (lastN acc = ah) := hah
        rw [hah] at hnr ⊢
        have hNKh : Hid (acc = [] ↔ K = 0) := by
          show _ ↔ _
          rw [← hKh.out, List.length_eq_zero_iff]
        by_cases hbad : acc ≠ [] ∧ bytesBefore ah nm = false
        case pos =>
          rw [if_pos hbad] at hnr
          have hR2 : Hid (R = .error (at_ + 2)) := hnr.symm
          have qK : decide ((K : Int) > 0) = true := by
            have : K ≠ 0 := fun e => hbad.1 (hNKh.out.2 e)
            simp; omega
          have qS : (Op.bytesLess nm ah = true ∧ (nm == ah) = false) ∨ (Op.bytesLess nm ah = false ∧ (nm == ah) = true) := by
            by_cases he : nm = ah
            · right; rw [he, less_before, bb_irrefl]; simp
            · left; rw [less_before, bb_total hbad.2 (fun e => he e.symm)]; simpa using he
          have qK2 : 0 < K := by simpa using qK
          clear hnr hm hNR hbad hah
          rcases qS with ⟨qa, qb⟩ | ⟨qa, qb⟩
          all_goals go_wp2_with fail
          all_goals refine NM.mono ?_
          all_goals rintro e w2 ⟨rfl, hR3, hC3⟩
          all_goals go_wp2_with fail
          all_goals go_ret
          all_goals rw [hR2.out]
          all_goals exact ⟨rfl, _, hR3, hCr.out.trans (hC3.weak (fun k h => .inl h))⟩
        rw [if_neg hbad] at hnr
        have qO : (acc = [] ∨ bytesBefore ah nm = true) := by
          by_cases h0 : acc = []
          · exact .inl h0
          · right
            cases hq : bytesBefore ah nm
            · exact absurd ⟨h0, hq⟩ hbad
            · rfl
        have hall : Hid (∀ p ∈ acc, bytesBefore p.1 nm = true) := before_all hA.out.srt (by rw [hahh.out]; exact qO)
        have qS : (¬ 0 < K) ∨ (Op.bytesLess nm ah = false ∧ (nm == ah) = false ∧ 0 < K) := by
          by_cases hK0 : K = 0
          · left; omega
          · right
            have hb := qO.resolve_left (fun e => hK0 (hNKh.out.1 e))
            refine ⟨by rw [less_before]; exact bb_asymm hb, by simpa using fun e : nm = ah => bb_ne hb e.symm, by omega⟩
        clear hbad qO hah
        by_cases k2 : at_ + 2 + nm.length + 8 ≤ l.length
        case neg =>
          rw [numF_none k2] at hnr
          have hR2 : Hid (R = .error (at_ + 2 + nm.length)) := hnr.symm
          have N3 := fun w1 hR => number_no rb ao cap l (at_ + 2) (at_ + 2 + nm.length) 8 w1 hR hlh.out (by omega) (by omega)
          clear hnr hNR k2 hm
          rcases qS with qa | ⟨qa, qb, qc⟩
          all_goals go_wp2_with fail
          all_goals refine NM.mono ?_
          all_goals rintro e w2 ⟨rfl, hR3, hC3⟩
          all_goals go_wp2_with fail
          all_goals refine (N3 w2 hR3).mono ?_
          all_goals rintro e w3 ⟨rfl, hR4, hC4⟩
          all_goals go_wp2_with fail
          all_goals go_ret
          all_goals rw [hR2.out]
          all_goals exact ⟨rfl, _, hR4, hCr.out.trans ((hC3.trans hC4).weak (fun k h => .inl h))⟩
        rw [numF_some k2] at hnr
        have N3 := fun w1 hR => number_ok rb ao cap l (at_ + 2) (at_ + 2 + nm.length) 8 w1 hR hlh.out k2 (by omega)
        generalize be (pieceF l (at_ + 2 + nm.length) 8) = x at N3 hnr
        have hxb := s64_bounds x
        have hw : IntKind.i64.wrap (x : Int) = s64 x := rfl
        dsimp only at hnr
        generalize s64 x = sx at hw hnr hxb
        by_cases hlow : sx < c
        case pos =>
          rw [if_pos hlow] at hnr
          have hR2 : Hid (R = .error (at_ + 2 + nm.length)) := hnr.symm
          have ql : decide (sx < c) = true := by simpa using hlow
          clear hnr hNR k2 hm
          rcases qS with qa | ⟨qa, qb, qc⟩
          all_goals go_wp2_with fail
          all_goals refine NM.mono ?_
          all_goals rintro e w2 ⟨rfl, hR3, hC3⟩
          all_goals go_wp2_with fail
          all_goals refine (N3 w2 hR3).mono ?_
          all_goals rintro e w3 ⟨rfl, hR4, hC4⟩
          all_goals have hB3 := hBr.out.chf (hC3.trans hC4) (fun e => hne e.symm) (fun e => hnm e.symm)
          all_goals have d1 := hB3.cells.cell 1 (by simp)
          all_goals simp only [List.getElem_cons_zero, List.getElem_cons_succ] at d1
          all_goals clear hB3
          all_goals go_wp2_with fail
          all_goals go_ret
          all_goals rw [hR2.out]
          all_goals exact ⟨rfl, _, hR4, hCr.out.trans ((hC3.trans hC4).weak (fun k h => .inl h))⟩
        rw [if_neg hlow] at hnr
        have ql : decide (sx < c) = false := by simpa using hlow
        have hNext : Hid (namesR l c m (at_ + 2 + nm.length + 8) (acc ++ [(nm, sx)]) = R) := hnr
        have hval : plainElem (H := Unit) Try.prog 2 (.int .i64 sx) = some (.lit (.int .i64 sx), []) := plainElem_int Try.underlying2 (by unfold I64 at hxb; simp only [Lit.wf, Bool.and_eq_true, decide_eq_true_eq]; rw [show IntKind.i64.min = -9223372036854775808 from by decide, show IntKind.i64.max = 9223372036854775807 from by decide]; exact hxb)
        have hmh : Hid (N - acc.length = m + 1) := hm
        clear hnr hNR k2 hm
        rcases qS with qa | ⟨qa, qb, qc⟩
        all_goals go_wp2_with fail
        all_goals refine NM.mono ?_
        all_goals rintro e w2 ⟨rfl, hR3, hC3⟩
        all_goals go_wp2_with fail
        all_goals refine (N3 w2 hR3).mono ?_
        all_goals rintro e w3 ⟨rfl, hR4, hC4⟩
        all_goals have hB3 := hBr.out.chf (hC3.trans hC4) (fun e => hne e.symm) (fun e => hnm e.symm)
        all_goals have d1 := hB3.cells.cell 1 (by simp)
        all_goals have d0 := hB3.cells.cell 0 (by simp)
        all_goals simp only [List.getElem_cons_zero, List.getElem_cons_succ] at d1 d0
        all_goals have hown3 := hB3.own
        all_goals have hB3h : Hid (Bok w3 bb mb ⟨true, c, acc⟩) := hB3
        all_goals have hR4h : Hid (Rdr w3 rb ao cap l (at_ + 2 + nm.length) (at_ + 2 + nm.length + 8)) := hR4
        all_goals have hC5 : Hid (Chf (fun k => k = rb ∨ k = bb ∨ k = mb) w w3) := hCr.out.trans ((hC3.trans hC4).weak (fun k h => .inl h))
        all_goals clear hB3 hR3 hR4 hC3 hC4 NM N3
        all_goals go_wp2_with (at_mapUpdate; refine wpList_mapUpdate_own _ rfl _ _ _ 61 rfl 9 2 lawK Try.underlying61 _ mb acc.length _ rfl hown3 (by rw [hKh.out]; unfold maxLen; omega) _ _ _ rfl rfl (keyS (k := nm) (by omega)) _ [] hval ?_; intro w4 hown4 hgrow4)
        all_goals have hC6 : Hid (Chf (fun k => k = mb) w3 w4) := (Chf.refl _ w3).grown hgrow4 (fun g e => by cases e; exact .inl rfl)
        all_goals rw [put_bkD (has_last hall.out), ins_last hall.out] at hown4
        all_goals have hown5 : Hid (w4.ownsMap Try.prog 9 (plainElem Try.prog 2) mb (acc ++ [(nm, sx)]).length (bkD (acc ++ [(nm, sx)]))) := by rw [List.length_append]; exact hown4
        all_goals clear hown4 hgrow4
        all_goals go_roundw
        all_goals first
          | (case rel =>
              refine ⟨acc ++ [(nm, sx)], at_ + 2 + nm.length + 8, _, ?_, by rw [lastN_snoc], ?_, hA.out.snoc hall.out hnl.1 ⟨by omega, hxb.2⟩, ?_, hR4h.out.chf hC6.out hnm (fun hl a e => (hao hl a e).2), ⟨hB3h.out.cells.chf hC6.out hB3h.out.ne, hown5.out, hB3h.out.ne⟩, hC5.out.trans (hC6.out.weak (fun k h => .inr (.inr h)))⟩
              · rw [List.length_append, hKh.out]; simp
              · rw [List.length_append, hKh.out]; simp; omega
              · rw [List.length_append, List.length_singleton, show N - (acc.length + 1) = m from by have := hmh.out; omega]; exact hNext.out)
          | (case measure => simp [intOf]; omega)
    · obtain rfl : K = N := by omega
      have hR2 : Hid (R = .ok (acc, at_)) := by
        show _ = _
        rw [← hNR.out, hKh.out, Nat.sub_self]; rfl
      go_wp2_with fail
      go_ret
      rw [hR2.out]
      exact ⟨rfl, ⟨_, hRr.out⟩, hBr.out, hCr.out⟩

end Go.Proofs.Ytidmjojlhcgedaa
