import Derived.Test.YtkaoobdemaahbaaDM
namespace Go.Proofs.Ytkaoobdemaahbaa

theorem hd_head (t : UInt8) (n : Nat) (x : List UInt8) : (hd (t.toNat : Int) n ++ x).getD 0 0 = t := by
  unfold hd
  split
  · simp
  · split
    · simp
    · split <;> simp

theorem inn_mid (a b x : List UInt8) : inn (a ++ b ++ x) a.length (a.length + b.length) = b := by
  unfold inn
  rw [List.append_assoc, List.drop_left, Nat.add_sub_cancel_left, List.take_left]

theorem meas_split {l : List UInt8} {h wl : Nat} (hm : meas l = some (h, wl)) (hl : l.length ≤ 65536) :
    l.take wl = hd ((l.getD 0 0).toNat : Int) (inn l h wl).length ++ inn l h wl ∧ wl = h + (inn l h wl).length ∧ 2 ≤ h ∧ wl ≤ l.length ∧ h = (hd ((l.getD 0 0).toNat : Int) (inn l h wl).length).length ∧ (inn l h wl).length ≤ 65536 := by
  obtain ⟨t, body, x, e, e1, e2, e3⟩ := meas_inv hm hl
  have ei : inn l h wl = body := by rw [e, e2, e1]; exact inn_mid _ _ _
  have et : l.getD 0 0 = t := by rw [e, List.append_assoc]; exact hd_head _ _ _
  rw [ei, et]
  have := (hd_length (t.toNat : Int) body.length).1
  refine ⟨?_, e2, by omega, ?_, e1, e3⟩
  · rw [e, e2, e1, ← List.length_append, List.take_left]
  · rw [e, e2, e1]; simp

theorem sound_con (t : Int) (m : Nat) (hc : con t = true) : sound ⟨t, [], m⟩ = sound ⟨t, [], 0⟩ := by
  unfold sound
  simp [hc]

theorem pk_sound {f : List UInt8 → Res} {P : List E → List UInt8 → Prop} (hf : ∀ l ts n, l.length ≤ 65536 → f l = .ok (ts, n) → n ≤ l.length ∧ 0 < n ∧ P ts (l.take n)) :
    ∀ (k : Nat) (l : List UInt8) (us : List E) (m : Nat), l.length ≤ k → l.length ≤ 65536 → pk f k l = .ok (us, m) → Els P m us l
  | 0, l, us, m, hk, _, h => by
    have : l = [] := List.length_eq_zero_iff.1 (by omega)
    subst this
    simp only [pk, Except.ok.injEq, Prod.mk.injEq] at h
    rw [← h.1, ← h.2]
    exact .nil
  | k + 1, l, us, m, hk, hl, h => by
    simp only [pk] at h
    by_cases h0 : l = []
    · subst h0
      simp only [if_pos, Except.ok.injEq, Prod.mk.injEq] at h
      rw [← h.1, ← h.2]
      exact .nil
    · rw [if_neg h0] at h
      generalize he : f l = r at h
      match r, he with
      | .error e, _ => simp at h
      | .ok (ts, n), he =>
        obtain ⟨h1, h2, h3⟩ := hf l ts n hl he
        simp only at h
        generalize hr : pk f k (l.drop n) = r2 at h
        match r2, hr with
        | .error (p, c), _ => simp at h
        | .ok (vs, q), hr =>
          simp only [Except.ok.injEq, Prod.mk.injEq] at h
          have h4 := pk_sound hf k (l.drop n) vs q (by rw [List.length_drop]; omega) (by rw [List.length_drop]; omega) hr
          have := Els.cons h3 h4
          rw [List.take_append_drop] at this
          rw [← h.1, ← h.2]
          exact this

theorem pe_sound : ∀ (d : Nat) (l : List UInt8) (ts : List E) (n : Nat), l.length ≤ 65536 → pe d l = .ok (ts, n) → n ≤ l.length ∧ 0 < n ∧ El d ts (l.take n) := by
  intro d
  induction d with
  | zero =>
    intro l ts n hl h
    simp only [pe] at h
    generalize hm : meas l = r at h
    match r, hm with
    | none, _ => simp at h
    | some (a, b), hm =>
      obtain ⟨e1, e2, e3, e4, e5, e6⟩ := meas_split hm hl
      simp only at h
      split at h
      · split at h <;> simp at h
      · rename_i hc
        split at h
        · rename_i hs
          simp only [Except.ok.injEq, Prod.mk.injEq] at h
          obtain ⟨h1, h2⟩ := h
          rw [← h1, ← h2]
          refine ⟨e4, by omega, ?_⟩
          exact ⟨_, rfl, hs, by simpa using hc, e1⟩
        · simp at h
  | succ d ih =>
    intro l ts n hl h
    simp only [pe] at h
    generalize hm : meas l = r at h
    match r, hm with
    | none, _ => simp at h
    | some (a, b), hm =>
      obtain ⟨e1, e2, e3, e4, e5, e6⟩ := meas_split hm hl
      simp only at h
      split at h
      · rename_i hc
        split at h
        · rename_i hs
          generalize hr : pk (pe d) (inn l a b).length (inn l a b) = r2 at h
          match r2, hr with
          | .error (p, c), _ => simp at h
          | .ok (us, m), hr =>
            simp only [Except.ok.injEq, Prod.mk.injEq] at h
            obtain ⟨h1, h2⟩ := h
            rw [← h1, ← h2]
            refine ⟨e4, by omega, .inr ⟨_, us, inn l a b, rfl, ?_, hc, e1, ?_⟩⟩
            · rw [sound_con _ _ hc]; exact hs
            · exact pk_sound ih _ _ _ _ (Nat.le_refl _) e6 hr
        · simp at h
      · rename_i hc
        split at h
        · rename_i hs
          simp only [Except.ok.injEq, Prod.mk.injEq] at h
          obtain ⟨h1, h2⟩ := h
          rw [← h1, ← h2]
          exact ⟨e4, by omega, .inl ⟨_, rfl, hs, by simpa using hc, e1⟩⟩
        · simp at h

theorem pk_complete {f : List UInt8 → Res} {P : List E → List UInt8 → Prop} (hf : ∀ ts bs x, P ts bs → bs.length ≤ 65536 → f (bs ++ x) = .ok (ts, bs.length)) (hP : ∀ ts bs, P ts bs → bs ≠ []) {n : Nat} {us : List E} {cs : List UInt8} (h : Els P n us cs) :
    ∀ k, cs.length ≤ k → cs.length ≤ 65536 → pk f k cs = .ok (us, n) := by
  induction h with
  | nil =>
    intro k _ _
    cases k <;> simp [pk]
  | cons h1 h2 ih =>
    rename_i n ts us bs cs
    intro k hk hl
    have hne := hP _ _ h1
    have hpos : 0 < bs.length := List.length_pos_iff.2 hne
    rw [List.length_append] at hk hl
    match k, hk with
    | 0, hk => omega
    | k + 1, hk =>
      simp only [pk]
      rw [if_neg (by simp [hne]), hf _ _ _ h1 (by omega)]
      simp only
      rw [List.drop_left, ih k (by omega) (by omega)]

theorem tag_of {t : E} (h : sound t = true) : 0 ≤ t.tag ∧ t.tag ≤ 255 := by
  unfold sound isTg at h
  simp only [Bool.and_eq_true, decide_eq_true_eq] at h
  exact h.1.1.1

theorem tag_u8 {t : E} (h : sound t = true) : ((UInt8.ofNat t.tag.toNat).toNat : Int) = t.tag := by
  have := tag_of h
  rw [u8_ofNat _ (by omega)]
  omega

theorem hd_u8 {t : E} (h : sound t = true) (n : Nat) : hd t.tag n = hd ((UInt8.ofNat t.tag.toNat).toNat : Int) n := by rw [tag_u8 h]

theorem eta_prim {t : E} (h : sound t = true) (hc : con t.tag = false) : t = ⟨t.tag, t.data, 0⟩ := by
  unfold sound at h
  simp [hc] at h
  obtain ⟨a, b, c⟩ := t
  simp at h ⊢
  exact h.2

theorem eta_con {t : E} (h : sound t = true) (hc : con t.tag = true) : t = ⟨t.tag, [], t.kids.toNat⟩ ∧ sound ⟨t.tag, [], 0⟩ = true := by
  have h' := h
  unfold sound at h
  simp [hc] at h
  obtain ⟨a, b, c⟩ := t
  simp at h ⊢
  refine ⟨⟨h.2.1, by omega⟩, ?_⟩
  rw [h.2.1, show c = (c.toNat : Int) from by omega, sound_con _ _ hc] at h'
  exact h'

theorem El_ne : ∀ (d : Nat) (ts : List E) (bs : List UInt8), El d ts bs → bs ≠ [] := by
  intro d ts bs h hb
  have hl : ∀ (t : Int) (n : Nat) (x : List UInt8), hd t n ++ x ≠ [] := fun t n x h0 => by
    have := (hd_length t n).1
    have h2 := congrArg List.length h0
    simp at h2
    rw [h2.1] at this
    simp at this
  match d, h with
  | 0, ⟨t, _, _, _, h⟩ => exact hl _ _ _ (h.symm.trans hb)
  | d + 1, .inl ⟨t, _, _, _, h⟩ => exact hl _ _ _ (h.symm.trans hb)
  | d + 1, .inr ⟨t, r, body, _, _, _, h, _⟩ => exact hl _ _ _ (h.symm.trans hb)

theorem pe_complete : ∀ (d : Nat) (ts : List E) (bs x : List UInt8), El d ts bs → bs.length ≤ 65536 → pe d (bs ++ x) = .ok (ts, bs.length) := by
  have prim : ∀ (t : E) (x : List UInt8), sound t = true → con t.tag = false → (hd t.tag t.data.length ++ t.data).length ≤ 65536 → ∀ d, pe d (hd t.tag t.data.length ++ t.data ++ x) = .ok ([t], (hd t.tag t.data.length ++ t.data).length) := by
    intro t x hs hc hl d
    have hlen : t.data.length ≤ 65536 := by rw [List.length_append] at hl; omega
    have hm := meas_hd t.tag t.data x hlen
    have hi := inn_mid (hd t.tag t.data.length) t.data x
    have hg : (hd t.tag t.data.length ++ t.data ++ x).getD 0 0 = UInt8.ofNat t.tag.toNat := by
      rw [hd_u8 hs, List.append_assoc]; exact hd_head _ _ _
    have et := (eta_prim hs hc)
    cases d with
    | zero =>
      simp only [pe, hm, hg, tag_u8 hs, hc, hi]
      rw [← et]
      simp [hs]
    | succ d =>
      simp only [pe, hm, hg, tag_u8 hs, hc, hi]
      rw [← et]
      simp [hs]
  intro d
  induction d with
  | zero =>
    rintro ts bs x ⟨t, rfl, hs, hc, rfl⟩ hl
    exact prim t x hs hc hl 0
  | succ d ih =>
    rintro ts bs x (⟨t, rfl, hs, hc, rfl⟩ | ⟨t, r, body, rfl, hs, hc, rfl, hk⟩) hl
    · exact prim t x hs hc hl _
    · have hlen : body.length ≤ 65536 := by rw [List.length_append] at hl; omega
      have hm := meas_hd t.tag body x hlen
      have hi := inn_mid (hd t.tag body.length) body x
      have hg : (hd t.tag body.length ++ body ++ x).getD 0 0 = UInt8.ofNat t.tag.toNat := by
        rw [hd_u8 hs, List.append_assoc]; exact hd_head _ _ _
      obtain ⟨et, hs0⟩ := eta_con hs hc
      have hp := pk_complete ih (El_ne d) hk body.length (Nat.le_refl _) hlen
      simp only [pe, hm, hg, tag_u8 hs, hc, hi, hs0, hp, if_true]
      rw [← et]
      simp

theorem meas_append {a x : List UInt8} {h wl : Nat} (hm : meas a = some (h, wl)) (hl : a.length ≤ 65536) : meas (a ++ x) = some (h, wl) ∧ inn (a ++ x) h wl = inn a h wl ∧ (a ++ x).getD 0 0 = a.getD 0 0 := by
  obtain ⟨t, body, y, e, e1, e2, e3⟩ := meas_inv hm hl
  have ha : a ++ x = hd (t.toNat : Int) body.length ++ body ++ (y ++ x) := by rw [e]; simp
  refine ⟨?_, ?_, ?_⟩
  · rw [ha, meas_hd _ _ _ e3, e2, e1]
  · rw [ha, e2, e1, inn_mid, e, inn_mid]
  · rw [ha, e, List.append_assoc, List.append_assoc, hd_head, hd_head]

theorem pe_append {a : List UInt8} {h wl : Nat} (x : List UInt8) (hm : meas a = some (h, wl)) (hl : a.length ≤ 65536) (d : Nat) : pe d (a ++ x) = pe d a := by
  obtain ⟨h1, h2, h3⟩ := meas_append (x := x) hm hl
  cases d <;> simp only [pe, h1, h2, h3, hm]

/-- A shorter beginning of an element is none. -/
theorem pe_short {l : List UInt8} {h : Nat} (hm : meas l = some (h, l.length)) (hl : l.length ≤ 65536) (n : Nat) (hn : n < l.length) (d : Nat) : pe d (l.take n) = .error (0, 80) := by
  have : meas (l.take n) = none := by
    generalize hr : meas (l.take n) = r
    match r, hr with
    | none, _ => rfl
    | some (a, b), hr =>
      have hlen : (l.take n).length = n := by rw [List.length_take]; omega
      have h1 := (meas_split hr (by omega)).2.2.2.1
      have h2 := (meas_append (x := l.drop n) hr (by omega)).1
      rw [List.take_append_drop, hm] at h2
      simp only [Option.some.injEq, Prod.mk.injEq] at h2
      omega
  cases d <;> simp only [pe, this]

/-- An answer with one constructed element less allowed: the same, or too deep, and not behind the fault. -/
def LeE (a b : Res) : Prop := a = b ∨ ∃ p, a = .error (p, 11) ∧ (∀ p' c, b = .error (p', c) → p ≤ p') ∧ ∀ ts n, b = .ok (ts, n) → p ≤ n
def LeK (len : Nat) (a b : Res) : Prop := a = b ∨ ∃ p, a = .error (p, 11) ∧ (∀ p' c, b = .error (p', c) → p ≤ p') ∧ p ≤ len

theorem pk_err {f : List UInt8 → Res} (hf : ∀ l p c, l.length ≤ 65536 → f l = .error (p, c) → p ≤ l.length) (hn : ∀ l ts n, l.length ≤ 65536 → f l = .ok (ts, n) → n ≤ l.length) :
    ∀ (k : Nat) (l : List UInt8) (p : Nat) (c : Int), l.length ≤ 65536 → pk f k l = .error (p, c) → p ≤ l.length
  | 0, l, p, c, _, h => by simp [pk] at h
  | k + 1, l, p, c, hl, h => by
    simp only [pk] at h
    split at h
    · simp at h
    · generalize he : f l = r at h
      match r, he with
      | .error (p', c'), he =>
        simp only [Except.error.injEq, Prod.mk.injEq] at h
        have := hf l p' c' hl he
        omega
      | .ok (ts, n), he =>
        have h1 := hn l ts n hl he
        simp only at h
        generalize hr : pk f k (l.drop n) = r2 at h
        match r2, hr with
        | .error (p', c'), hr =>
          simp only [Except.error.injEq, Prod.mk.injEq] at h
          have := pk_err hf hn k (l.drop n) p' c' (by rw [List.length_drop]; omega) hr
          rw [List.length_drop] at this
          omega
        | .ok (vs, q), hr => simp at h

theorem pe_err : ∀ (d : Nat) (l : List UInt8) (p : Nat) (c : Int), l.length ≤ 65536 → pe d l = .error (p, c) → p ≤ l.length := by
  intro d
  induction d with
  | zero =>
    intro l p c hl h
    simp only [pe] at h
    split at h
    · simp only [Except.error.injEq, Prod.mk.injEq] at h; omega
    · split at h
      · split at h <;> (simp only [Except.error.injEq, Prod.mk.injEq] at h; omega)
      · split at h
        · simp at h
        · simp only [Except.error.injEq, Prod.mk.injEq] at h; omega
  | succ d ih =>
    intro l p c hl h
    simp only [pe] at h
    generalize hm : meas l = r at h
    match r, hm with
    | none, _ => simp only [Except.error.injEq, Prod.mk.injEq] at h; omega
    | some (a, b), hm =>
      obtain ⟨e1, e2, e3, e4, e5, e6⟩ := meas_split hm hl
      simp only at h
      split at h
      · split at h
        · generalize hr : pk (pe d) (inn l a b).length (inn l a b) = r2 at h
          match r2, hr with
          | .error (p', c'), hr =>
            have := pk_err ih (fun l ts n hl h => (pe_sound d l ts n hl h).1) _ _ _ _ e6 hr
            simp only [Except.error.injEq, Prod.mk.injEq] at h
            omega
          | .ok (us, m), hr => simp at h
        · simp only [Except.error.injEq, Prod.mk.injEq] at h; omega
      · split at h
        · simp at h
        · simp only [Except.error.injEq, Prod.mk.injEq] at h; omega

theorem pk_le {f g : List UInt8 → Res} (hfg : ∀ l, l.length ≤ 65536 → LeE (f l) (g l)) (hf : ∀ l p c, l.length ≤ 65536 → g l = .error (p, c) → p ≤ l.length) (hn : ∀ l ts n, l.length ≤ 65536 → g l = .ok (ts, n) → n ≤ l.length) :
    ∀ (k : Nat) (l : List UInt8), l.length ≤ 65536 → LeK l.length (pk f k l) (pk g k l)
  | 0, l, _ => .inl rfl
  | k + 1, l, hl => by
    simp only [pk]
    by_cases h0 : l = []
    · rw [if_pos h0, if_pos h0]; exact .inl rfl
    · rw [if_neg h0, if_neg h0]
      rcases hfg l hl with h | ⟨p, h1, h2, h3⟩
      · rw [h]
        generalize he : g l = r
        match r, he with
        | .error e, _ => exact .inl rfl
        | .ok (ts, n), he =>
          have hn' := hn l ts n hl he
          simp only
          rcases pk_le hfg hf hn k (l.drop n) (by rw [List.length_drop]; omega) with h | ⟨p, h1, h2, h3⟩
          · rw [h]; exact .inl rfl
          · rw [h1]
            refine .inr ⟨n + p, rfl, ?_, by rw [List.length_drop] at h3; omega⟩
            intro p' c hc
            generalize hr : pk g k (l.drop n) = r2 at hc
            match r2, hr with
            | .error (q, c'), hr =>
              simp only [Except.error.injEq, Prod.mk.injEq] at hc
              have := h2 q c' hr
              omega
            | .ok (vs, q), hr => simp at hc
      · rw [h1]
        generalize he : g l = r
        match r, he with
        | .error (q, c), he =>
          have a1 := h2 q c he
          have a2 := hf l q c hl he
          refine .inr ⟨p, rfl, ?_, by omega⟩
          intro p' c' hc
          simp only [Except.error.injEq, Prod.mk.injEq] at hc
          omega
        | .ok (ts, n), he =>
          have a1 := h3 ts n he
          have a2 := hn l ts n hl he
          refine .inr ⟨p, rfl, ?_, by omega⟩
          intro p' c' hc
          simp only at hc
          generalize hr : pk g k (l.drop n) = r2 at hc
          match r2, hr with
          | .error (q, c'), hr =>
            simp only [Except.error.injEq, Prod.mk.injEq] at hc
            omega
          | .ok (vs, q), hr => simp at hc

theorem pe_le : ∀ (d : Nat) (l : List UInt8), l.length ≤ 65536 → LeE (pe d l) (pe (d + 1) l) := by
  intro d
  induction d with
  | zero =>
    intro l hl
    simp only [pe]
    generalize hm : meas l = r
    match r, hm with
    | none, _ => exact .inl rfl
    | some (a, b), hm =>
      simp only
      split
      · split
        · exact .inr ⟨0, rfl, fun _ _ _ => Nat.zero_le _, fun _ _ _ => Nat.zero_le _⟩
        · exact .inl rfl
      · exact .inl rfl
  | succ d ih =>
    intro l hl
    rw [pe, pe.eq_2 l (d + 1)]
    generalize hm : meas l = r
    match r, hm with
    | none, _ => exact .inl rfl
    | some (a, b), hm =>
      obtain ⟨e1, e2, e3, e4, e5, e6⟩ := meas_split hm hl
      simp only
      split
      · split
        · rcases pk_le ih (pe_err (d + 1)) (fun l ts n hl h => (pe_sound (d + 1) l ts n hl h).1) (inn l a b).length (inn l a b) e6 with h | ⟨p, h1, h2, h3⟩
          · rw [h]; exact .inl rfl
          · rw [h1]
            refine .inr ⟨a + p, rfl, ?_, ?_⟩
            · intro p' c hc
              generalize hr : pk (pe (d + 1)) (inn l a b).length (inn l a b) = r2 at hc
              match r2, hr with
              | .error (q, c'), hr =>
                simp only [Except.error.injEq, Prod.mk.injEq] at hc
                have := h2 q c' hr
                omega
              | .ok (vs, q), hr => simp at hc
            · intro ts n hc
              generalize hr : pk (pe (d + 1)) (inn l a b).length (inn l a b) = r2 at hc
              match r2, hr with
              | .error (q, c'), hr => simp at hc
              | .ok (vs, q), hr =>
                simp only [Except.ok.injEq, Prod.mk.injEq] at hc
                omega
        · exact .inl rfl
      · exact .inl rfl

end Go.Proofs.Ytkaoobdemaahbaa
