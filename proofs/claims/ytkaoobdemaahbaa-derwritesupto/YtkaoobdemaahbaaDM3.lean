import Derived.Test.YtkaoobdemaahbaaDM2
namespace Go.Proofs.Ytkaoobdemaahbaa

/-- So many elements one behind the other: what is behind them. -/
def bks (f : List E → Option (List E)) : Nat → List E → Option (List E)
  | 0, l => some l
  | n + 1, l => match f l with
    | none => none
    | some r => bks f n r

/-- What is behind the element at the front. -/
def bh : Nat → List E → Option (List E)
  | 0, l => match l with
    | [] => none
    | t :: r => if sound t && !con t.tag then some r else none
  | d + 1, l => match l with
    | [] => none
    | t :: r => if sound t then bks (bh d) t.kids.toNat r else none

def shaped (v : List E) : Bool := bh 32 v == some []

theorem bks_els {f : List E → Option (List E)} {P : List E → List UInt8 → Prop} (hf : ∀ l r, f l = some r → ∃ ts bs, l = ts ++ r ∧ P ts bs) :
    ∀ (n : Nat) (l r : List E), bks f n l = some r → ∃ ts bs, l = ts ++ r ∧ Els P n ts bs
  | 0, l, r, h => by simp [bks] at h; exact ⟨[], [], by simp [h], .nil⟩
  | n + 1, l, r, h => by
    simp only [bks] at h
    generalize hr : f l = q at h
    match q, hr with
    | none, _ => simp at h
    | some q, hr =>
      obtain ⟨ts, bs, e, hp⟩ := hf _ _ hr
      obtain ⟨us, cs, e2, hk⟩ := bks_els hf n q r h
      exact ⟨ts ++ us, bs ++ cs, by rw [e, e2, List.append_assoc], .cons hp hk⟩

theorem kids_prim {t : E} (h : sound t = true) (hc : con t.tag = false) : t.kids = 0 := by
  unfold sound at h
  simp [hc] at h
  exact h.2

theorem data_con {t : E} (h : sound t = true) (hc : con t.tag = true) : t.data = [] ∧ 0 ≤ t.kids := by
  unfold sound at h
  simp [hc] at h
  exact h.2

theorem bh_El : ∀ (d : Nat) (l r : List E), bh d l = some r → ∃ ts bs, l = ts ++ r ∧ El d ts bs := by
  intro d
  induction d with
  | zero =>
    intro l r h
    match l, h with
    | [], h => simp [bh] at h
    | t :: q, h =>
      simp only [bh] at h
      split at h
      · rename_i hc
        simp at hc h
        exact ⟨[t], _, by simp [h], t, rfl, hc.1, hc.2, rfl⟩
      · simp at h
  | succ d ih =>
    intro l r h
    match l, h with
    | [], h => simp [bh] at h
    | t :: q, h =>
      simp only [bh] at h
      split at h
      · rename_i hs
        cases hc : con t.tag with
        | false =>
          rw [kids_prim hs hc] at h
          simp [bks] at h
          exact ⟨[t], _, by simp [h], .inl ⟨t, rfl, hs, hc, rfl⟩⟩
        | true =>
          obtain ⟨ts, bs, e, hk⟩ := bks_els ih _ _ _ h
          exact ⟨t :: ts, _, by simp [e], .inr ⟨t, ts, bs, rfl, hs, hc, rfl, hk⟩⟩
      · simp at h

theorem els_bks {f : List E → Option (List E)} {P : List E → List UInt8 → Prop} (hf : ∀ ts bs r, P ts bs → f (ts ++ r) = some r) {n : Nat} {ts : List E} {bs : List UInt8} (h : Els P n ts bs) (r : List E) : bks f n (ts ++ r) = some r := by
  induction h with
  | nil => rfl
  | cons h1 h2 ih => rw [List.append_assoc, bks, hf _ _ _ h1]; exact ih

theorem El_bh : ∀ (d : Nat) (ts : List E) (bs : List UInt8) (r : List E), El d ts bs → bh d (ts ++ r) = some r := by
  intro d
  induction d with
  | zero =>
    rintro ts bs r ⟨t, rfl, hs, hc, _⟩
    simp [bh, hs, hc]
  | succ d ih =>
    rintro ts bs r (⟨t, rfl, hs, hc, _⟩ | ⟨t, q, body, rfl, hs, hc, _, hk⟩)
    · simp [bh, hs, kids_prim hs hc, bks]
    · simp only [List.cons_append, bh, hs, if_true]
      exact els_bks ih hk r

theorem shaped_El {v : List E} : shaped v = true ↔ ∃ bs, El 32 v bs := by
  unfold shaped
  constructor
  · intro h
    obtain ⟨ts, bs, e, hp⟩ := bh_El 32 v [] (by simpa using h)
    exact ⟨bs, by rw [e, List.append_nil]; exact hp⟩
  · rintro ⟨bs, h⟩
    have := El_bh 32 v bs [] h
    rw [List.append_nil] at this
    simp [this]

/-- A length's digits behind the byte that says how many. -/
def dgs (n : Nat) : Nat :=
  if n < 128 then 0 else if n < 256 then 1 else if n < 65536 then 2 else if n < 16777216 then 3 else if n < 4294967296 then 4
  else if n < 1099511627776 then 5 else if n < 281474976710656 then 6 else if n < 72057594037927936 then 7 else 8

theorem dgs_le (n : Nat) : dgs n ≤ 8 := by
  unfold dgs
  repeat' split
  all_goals omega

/-- The sizes of the elements, the foremost first. -/
def szs : List E → List Nat
  | [] => []
  | t :: r => (2 + dgs (t.data.length + ((szs r).take t.kids.toNat).sum) + (t.data.length + ((szs r).take t.kids.toNat).sum)) :: (szs r).drop t.kids.toNat

/-- How many bytes the contents of the first one have. -/
def ins (t : E) (r : List E) : Nat := t.data.length + ((szs r).take t.kids.toNat).sum

def pr : List E → List UInt8
  | [] => []
  | t :: r => hd t.tag (ins t r) ++ t.data ++ pr r

theorem szs_cons (t : E) (r : List E) : szs (t :: r) = (2 + dgs (ins t r) + ins t r) :: (szs r).drop t.kids.toNat := rfl

/-- Kids that there are. -/
def okS : List E → Prop
  | [] => True
  | t :: r => (0 ≤ t.kids ∧ t.kids.toNat ≤ (szs r).length) ∧ okS r

theorem hd_dgs (t : Int) (n : Nat) : (hd t n).length ≤ 2 + dgs n ∧ (n ≤ 65536 → (hd t n).length = 2 + dgs n) := by
  unfold hd dgs
  refine ⟨?_, fun h => ?_⟩
  · split
    · simp
    · split
      · simp
      · split
        · simp
        · simp only [List.length_cons, List.length_nil]
          repeat' split
          all_goals omega
  · split
    · simp
    · split
      · simp
      · split
        · simp
        · rw [if_pos (by omega)]; simp

theorem dgs_ge {k T : Nat} (n : Nat) (h : T ≤ n) (hk : (k, T) ∈ [(1, 128), (2, 256), (3, 65536), (4, 16777216), (5, 4294967296), (6, 1099511627776), (7, 281474976710656), (8, 72057594037927936)]) : k ≤ dgs n := by
  simp only [List.mem_cons, Prod.mk.injEq, List.not_mem_nil, or_false] at hk
  unfold dgs
  rcases hk with ⟨rfl, rfl⟩ | ⟨rfl, rfl⟩ | ⟨rfl, rfl⟩ | ⟨rfl, rfl⟩ | ⟨rfl, rfl⟩ | ⟨rfl, rfl⟩ | ⟨rfl, rfl⟩ | ⟨rfl, rfl⟩
  · rw [if_neg (by omega)]; repeat' split
    all_goals omega
  · rw [if_neg (by omega), if_neg (by omega)]; repeat' split
    all_goals omega
  · rw [if_neg (by omega), if_neg (by omega), if_neg (by omega)]; repeat' split
    all_goals omega
  · rw [if_neg (by omega), if_neg (by omega), if_neg (by omega), if_neg (by omega)]; repeat' split
    all_goals omega
  · rw [if_neg (by omega), if_neg (by omega), if_neg (by omega), if_neg (by omega), if_neg (by omega)]; repeat' split
    all_goals omega
  · rw [if_neg (by omega), if_neg (by omega), if_neg (by omega), if_neg (by omega), if_neg (by omega), if_neg (by omega)]; repeat' split
    all_goals omega
  · rw [if_neg (by omega), if_neg (by omega), if_neg (by omega), if_neg (by omega), if_neg (by omega), if_neg (by omega), if_neg (by omega)]; repeat' split
    all_goals omega
  · rw [if_neg (by omega), if_neg (by omega), if_neg (by omega), if_neg (by omega), if_neg (by omega), if_neg (by omega), if_neg (by omega), if_neg (by omega)]
    exact Nat.le_refl _

theorem dgs_mono {a b : Nat} (h : a ≤ b) : dgs a ≤ dgs b := by
  rw [dgs]
  split
  · exact Nat.zero_le _
  · split
    · exact dgs_ge (T := 128) b (by omega) (by simp)
    · split
      · exact dgs_ge (T := 256) b (by omega) (by simp)
      · split
        · exact dgs_ge (T := 65536) b (by omega) (by simp)
        · split
          · exact dgs_ge (T := 16777216) b (by omega) (by simp)
          · split
            · exact dgs_ge (T := 4294967296) b (by omega) (by simp)
            · split
              · exact dgs_ge (T := 1099511627776) b (by omega) (by simp)
              · split
                · exact dgs_ge (T := 281474976710656) b (by omega) (by simp)
                · exact dgs_ge (T := 72057594037927936) b (by omega) (by simp)

/-- One element's size against its bytes. -/
def Sz (ts : List E) (bs : List UInt8) : Prop := ∃ s, bs.length ≤ s ∧ (bs.length ≤ 65536 → s = bs.length) ∧ ∀ r, szs (ts ++ r) = s :: szs r

theorem els_sz {P : List E → List UInt8 → Prop} (hP : ∀ ts bs, P ts bs → Sz ts bs) {n : Nat} {ts : List E} {bs : List UInt8} (h : Els P n ts bs) :
    ∃ ss : List Nat, ss.length = n ∧ bs.length ≤ ss.sum ∧ (bs.length ≤ 65536 → ss.sum = bs.length) ∧ ∀ r, szs (ts ++ r) = ss ++ szs r := by
  induction h with
  | nil => exact ⟨[], rfl, by simp, by simp, fun r => rfl⟩
  | cons h1 h2 ih =>
    obtain ⟨s, a1, a2, a3⟩ := hP _ _ h1
    obtain ⟨ss, b1, b2, b3, b4⟩ := ih
    refine ⟨s :: ss, by simp [b1], ?_, ?_, fun r => ?_⟩
    · simp only [List.length_append, List.sum_cons]; omega
    · simp only [List.length_append, List.sum_cons]
      intro h
      rw [a2 (by omega), b3 (by omega)]
    · rw [List.append_assoc, a3, b4]; rfl

theorem El_sz : ∀ (d : Nat) (ts : List E) (bs : List UInt8), El d ts bs → Sz ts bs := by
  have prim : ∀ t : E, sound t = true → con t.tag = false → Sz [t] (hd t.tag t.data.length ++ t.data) := by
    intro t hs hc
    have hk := kids_prim hs hc
    have hh := hd_dgs t.tag t.data.length
    refine ⟨2 + dgs t.data.length + t.data.length, ?_, ?_, fun r => ?_⟩
    · rw [List.length_append]; omega
    · rw [List.length_append]
      intro h
      rw [hh.2 (by omega)]
    · simp [szs, hk]
  intro d
  induction d with
  | zero =>
    rintro ts bs ⟨t, rfl, hs, hc, rfl⟩
    exact prim t hs hc
  | succ d ih =>
    rintro ts bs (⟨t, rfl, hs, hc, rfl⟩ | ⟨t, q, body, rfl, hs, hc, rfl, hk⟩)
    · exact prim t hs hc
    · obtain ⟨ss, b1, b2, b3, b4⟩ := els_sz ih hk
      have hd0 := (data_con hs hc).1
      have hh := hd_dgs t.tag body.length
      have hm := dgs_mono b2
      refine ⟨2 + dgs ss.sum + ss.sum, ?_, ?_, fun r => ?_⟩
      · rw [List.length_append]; omega
      · rw [List.length_append]
        intro h
        rw [hh.2 (by omega), b3 (by omega)]
      · rw [List.cons_append, szs_cons, b4]
        have : ins t (q ++ r) = ss.sum := by unfold ins; rw [b4, hd0, ← b1]; simp
        rw [this, ← b1]
        simp

theorem els_pr {P : List E → List UInt8 → Prop} (hP : ∀ ts bs, P ts bs → bs.length ≤ 65536 → ∀ r, pr (ts ++ r) = bs ++ pr r) {n : Nat} {ts : List E} {bs : List UInt8} (h : Els P n ts bs) (hl : bs.length ≤ 65536) (r : List E) : pr (ts ++ r) = bs ++ pr r := by
  induction h with
  | nil => rfl
  | cons h1 h2 ih =>
    rw [List.length_append] at hl
    rw [List.append_assoc, hP _ _ h1 (by omega), ih (by omega), List.append_assoc]

theorem El_pr : ∀ (d : Nat) (ts : List E) (bs : List UInt8), El d ts bs → bs.length ≤ 65536 → ∀ r, pr (ts ++ r) = bs ++ pr r := by
  have prim : ∀ t : E, sound t = true → con t.tag = false → ∀ r, pr ([t] ++ r) = hd t.tag t.data.length ++ t.data ++ pr r := by
    intro t hs hc r
    have hk := kids_prim hs hc
    have : ins t r = t.data.length := by simp [ins, hk]
    show hd t.tag (ins t r) ++ t.data ++ pr r = _
    rw [this]
  intro d
  induction d with
  | zero =>
    rintro ts bs ⟨t, rfl, hs, hc, rfl⟩ _ r
    exact prim t hs hc r
  | succ d ih =>
    rintro ts bs (⟨t, rfl, hs, hc, rfl⟩ | ⟨t, q, body, rfl, hs, hc, rfl, hk⟩) hl r
    · exact prim t hs hc r
    · obtain ⟨ss, b1, b2, b3, b4⟩ := els_sz (El_sz d) hk
      rw [List.length_append] at hl
      have hd0 := (data_con hs hc).1
      have : ins t (q ++ r) = body.length := by unfold ins; rw [b4, hd0, ← b1]; simp; exact b3 (by omega)
      show hd t.tag (ins t (q ++ r)) ++ t.data ++ pr (q ++ r) = _
      rw [this, hd0, els_pr ih hk (by omega) r]
      simp

theorem els_ok {P : List E → List UInt8 → Prop} (hP : ∀ ts bs, P ts bs → ∀ r, okS r → okS (ts ++ r)) {n : Nat} {ts : List E} {bs : List UInt8} (h : Els P n ts bs) (r : List E) (hr : okS r) : okS (ts ++ r) := by
  induction h with
  | nil => exact hr
  | cons h1 h2 ih => rw [List.append_assoc]; exact hP _ _ h1 _ ih

theorem El_ok : ∀ (d : Nat) (ts : List E) (bs : List UInt8), El d ts bs → ∀ r, okS r → okS (ts ++ r) := by
  have prim : ∀ t : E, sound t = true → con t.tag = false → ∀ r, okS r → okS ([t] ++ r) := by
    intro t hs hc r hr
    have hk := kids_prim hs hc
    exact ⟨⟨by omega, by rw [hk]; simp⟩, hr⟩
  intro d
  induction d with
  | zero =>
    rintro ts bs ⟨t, rfl, hs, hc, rfl⟩ r hr
    exact prim t hs hc r hr
  | succ d ih =>
    rintro ts bs (⟨t, rfl, hs, hc, rfl⟩ | ⟨t, q, body, rfl, hs, hc, rfl, hk⟩) r hr
    · exact prim t hs hc r hr
    · obtain ⟨ss, b1, b2, b3, b4⟩ := els_sz (El_sz d) hk
      refine ⟨⟨(data_con hs hc).2, ?_⟩, els_ok ih hk r hr⟩
      show t.kids.toNat ≤ (szs (q ++ r)).length
      rw [b4, List.length_append]
      omega

def tot : List E → Nat
  | [] => 0
  | t :: r => t.data.length + 10 + tot r

theorem szs_tot (l : List E) : (szs l).sum ≤ tot l := by
  induction l with
  | nil => simp [szs, tot]
  | cons t r ih =>
    rw [szs_cons]
    simp only [List.sum_cons, tot, ins]
    have h1 := dgs_le (t.data.length + ((szs r).take t.kids.toNat).sum)
    have h2 : ((szs r).take t.kids.toNat).sum + ((szs r).drop t.kids.toNat).sum = (szs r).sum := by
      rw [← List.sum_append, List.take_append_drop]
    omega

/-- What Print answers. -/
def prints (v : List E) : List UInt8 × Int :=
  if shaped v then (if 65536 < (szs v).headD 0 then ([], 10) else (pr v, 0)) else ([], 80)

theorem prints_El {v : List E} {bs : List UInt8} (h : El 32 v bs) : (bs.length ≤ 65536 → prints v = (bs, 0)) ∧ (65536 < bs.length → prints v = ([], 10)) := by
  have hs : shaped v = true := shaped_El.2 ⟨bs, h⟩
  obtain ⟨s, a1, a2, a3⟩ := El_sz _ _ _ h
  have h3 := a3 []
  rw [List.append_nil] at h3
  unfold prints
  rw [hs, h3]
  refine ⟨fun hl => ?_, fun hl => ?_⟩
  · rw [a2 hl]
    have hp := El_pr _ _ _ h hl []
    rw [List.append_nil] at hp
    simp only [if_true, List.headD_cons, if_neg (show ¬ 65536 < bs.length from by omega), hp]
    simp [pr]
  · have hs : 65536 < s := by omega
    simp [hs]

theorem pk_code {f : List UInt8 → Res} (hf : ∀ l p c, f l = .error (p, c) → c = 80 ∨ c = 11) : ∀ (k : Nat) (l : List UInt8) (p : Nat) (c : Int), pk f k l = .error (p, c) → c = 80 ∨ c = 11
  | 0, l, p, c, h => by simp [pk] at h
  | k + 1, l, p, c, h => by
    simp only [pk] at h
    split at h
    · simp at h
    · generalize he : f l = r at h
      match r, he with
      | .error (p', c'), he =>
        simp only [Except.error.injEq, Prod.mk.injEq] at h
        rw [← h.2]
        exact hf l p' c' he
      | .ok (ts, n), he =>
        simp only at h
        generalize hr : pk f k (l.drop n) = r2 at h
        match r2, hr with
        | .error (p', c'), hr =>
          simp only [Except.error.injEq, Prod.mk.injEq] at h
          rw [← h.2]
          exact pk_code hf k _ p' c' hr
        | .ok (vs, q), hr => simp at h

theorem pe_code : ∀ (d : Nat) (l : List UInt8) (p : Nat) (c : Int), pe d l = .error (p, c) → c = 80 ∨ c = 11 := by
  intro d
  induction d with
  | zero =>
    intro l p c h
    simp only [pe] at h
    split at h
    · simp only [Except.error.injEq, Prod.mk.injEq] at h; omega
    · split at h
      · split at h <;> (simp only [Except.error.injEq, Prod.mk.injEq] at h; omega)
      · split at h
        · simp at h
        · simp only [Except.error.injEq, Prod.mk.injEq] at h; omega
  | succ d ih =>
    intro l p c h
    simp only [pe] at h
    split at h
    · simp only [Except.error.injEq, Prod.mk.injEq] at h; omega
    · rename_i a b hm
      split at h
      · split at h
        · generalize hr : pk (pe d) (inn l a b).length (inn l a b) = r2 at h
          match r2, hr with
          | .error (p', c'), hr =>
            simp only [Except.error.injEq, Prod.mk.injEq] at h
            rw [← h.2]
            exact pk_code ih _ _ _ _ hr
          | .ok (us, m), hr => simp at h
        · simp only [Except.error.injEq, Prod.mk.injEq] at h; omega
      · split at h
        · simp at h
        · simp only [Except.error.injEq, Prod.mk.injEq] at h; omega

theorem parse_ok {b : List UInt8} {v : List E} {at' : Nat} (h : parse b = (v, 0, at')) : El 32 v b ∧ at' = 0 ∧ b.length ≤ 65536 ∧ meas b ≠ none ∧ pe 32 b = .ok (v, b.length) := by
  unfold parse at h
  split at h
  · simp at h
  · rename_i hl
    generalize hr : pe 32 b = r at h
    match r, hr with
    | .error (p, c), hr =>
      simp only [Prod.mk.injEq] at h
      exfalso
      obtain ⟨_, hc, _⟩ := h
      have := pe_code _ _ _ _ hr
      omega
    | .ok (ts, n), hr =>
      simp only at h
      obtain ⟨h1, h2, h3⟩ := pe_sound 32 b ts n (by omega) hr
      split at h
      · simp at h
      · simp only [Prod.mk.injEq] at h
        have hn : n = b.length := by omega
        rw [hn, List.take_length, h.1] at h3
        refine ⟨h3, h.2.2.symm, by omega, ?_, by rw [h.1, hn]⟩
        intro hm
        simp [pe, hm] at hr

theorem El_parse {v : List E} {bs : List UInt8} (h : El 32 v bs) (hl : bs.length ≤ 65536) : parse bs = (v, 0, 0) := by
  have := pe_complete 32 v bs [] h hl
  rw [List.append_nil] at this
  unfold parse
  rw [if_neg (by omega), this]
  simp
end Go.Proofs.Ytkaoobdemaahbaa
