import Derived.WalkKit
namespace Go.Proofs.Ytkaoobdemaahbaa

/-- An element of a list. -/
structure E where
  tag : Int
  data : List UInt8
  kids : Int
deriving DecidableEq

/-- Is it constructed; is it a tag at all? -/
def con (t : Int) : Bool := t.toNat / 32 % 2 == 1
def isTg (t : Int) : Bool := decide (0 ≤ t) && decide (t ≤ 255) && t.toNat % 32 != 31

def isInt : List UInt8 → Bool
  | [] => false
  | [_] => true
  | x :: y :: _ => !(x == 0 && decide (y < 128) || x == 255 && decide (128 ≤ y))

def isBt : List UInt8 → Bool
  | [] => false
  | u :: r => decide (u ≤ 7) && (if r = [] then u == 0 else (r.getD (r.length - 1) 0).toNat % 2 ^ u.toNat == 0)

def gr : Bool → List UInt8 → Bool
  | bg, [] => bg
  | bg, x :: r => if bg && x == 128 then false else gr (decide (x < 128)) r

/-- Contents that are right. -/
def right (t : Int) (b : List UInt8) : Bool :=
  if t = 1 then b == [0] || b == [255]
  else if t = 2 then isInt b
  else if t = 3 then isBt b
  else if t = 5 then b == []
  else if t = 6 then gr true b && b != []
  else !(t == 16 || t == 17 || t == 33 || t == 34 || t == 35 || t == 37 || t == 38)

def sound (t : E) : Bool := isTg t.tag && right t.tag t.data && (if con t.tag then t.data == [] && decide (0 ≤ t.kids) else t.kids == 0)

/-- A length's digits. -/
def be (n : Nat) : List UInt8 → Nat
  | [] => n
  | x :: r => be (n * 256 + x.toNat) r

/-- How many bytes an element's head has, and how many the whole of it. -/
def meas : List UInt8 → Option (Nat × Nat)
  | _ :: x :: r =>
    if x < 128 then (if x.toNat ≤ r.length then some (2, 2 + x.toNat) else none)
    else if x.toNat = 128 ∨ 132 < x.toNat ∨ r.length < x.toNat - 128 ∨ r.getD 0 0 = 0 then none
    else if be 0 (r.take (x.toNat - 128)) < 128 ∨ r.length - (x.toNat - 128) < be 0 (r.take (x.toNat - 128)) then none
    else some (2 + (x.toNat - 128), 2 + (x.toNat - 128) + be 0 (r.take (x.toNat - 128)))
  | _ => none

abbrev Res := Except (Nat × Int) (List E × Nat)

/-- Elements one behind the other, to the end: them all, how many. -/
def pk (f : List UInt8 → Res) : Nat → List UInt8 → Res
  | 0, _ => .ok ([], 0)
  | k + 1, l =>
    if l = [] then .ok ([], 0) else
    match f l with
    | .error e => .error e
    | .ok (ts, n) =>
      match pk f k (l.drop n) with
      | .error (p, c) => .error (n + p, c)
      | .ok (us, m) => .ok (ts ++ us, m + 1)

/-- What stands in an element. -/
def inn (l : List UInt8) (h wl : Nat) : List UInt8 := (l.drop h).take (wl - h)

/-- The element at the front, d constructed ones being still allowed one in the other. -/
def pe : Nat → List UInt8 → Res
  | 0, l =>
    match meas l with
    | none => .error (0, 80)
    | some (h, wl) =>
      if con (l.getD 0 0).toNat then
        (if sound ⟨(l.getD 0 0).toNat, [], 0⟩ then .error (0, 11) else .error (0, 80))
      else
        (if sound ⟨(l.getD 0 0).toNat, inn l h wl, 0⟩ then .ok ([⟨(l.getD 0 0).toNat, inn l h wl, 0⟩], wl) else .error (0, 80))
  | d + 1, l =>
    match meas l with
    | none => .error (0, 80)
    | some (h, wl) =>
      if con (l.getD 0 0).toNat then
        (if sound ⟨(l.getD 0 0).toNat, [], 0⟩ then
          (match pk (pe d) (inn l h wl).length (inn l h wl) with
          | .error (p, c) => .error (h + p, c)
          | .ok (us, m) => .ok (⟨(l.getD 0 0).toNat, [], m⟩ :: us, wl))
        else .error (0, 80))
      else
        (if sound ⟨(l.getD 0 0).toNat, inn l h wl, 0⟩ then .ok ([⟨(l.getD 0 0).toNat, inn l h wl, 0⟩], wl) else .error (0, 80))

/-- What Parse answers: the list, the error, its place. -/
def parse (l : List UInt8) : List E × Int × Nat :=
  if 65536 < l.length then ([], 10, 0) else
  match pe 32 l with
  | .error (p, c) => ([], c, p)
  | .ok (ts, n) => if n < l.length then ([], 80, n) else (ts, 0, 0)

/-- The head of an element. -/
def hd (t : Int) (n : Nat) : List UInt8 :=
  if n < 128 then [UInt8.ofNat t.toNat, UInt8.ofNat n]
  else if n < 256 then [UInt8.ofNat t.toNat, 0x81, UInt8.ofNat n]
  else if n < 65536 then [UInt8.ofNat t.toNat, 0x82, UInt8.ofNat (n / 256), UInt8.ofNat (n % 256)]
  else [UInt8.ofNat t.toNat, 0x83, UInt8.ofNat (n / 65536), UInt8.ofNat (n / 256 % 256), UInt8.ofNat (n % 256)]

/-- So many elements one behind the other, and their bytes. -/
inductive Els (P : List E → List UInt8 → Prop) : Nat → List E → List UInt8 → Prop
  | nil : Els P 0 [] []
  | cons {n : Nat} {ts us : List E} {bs cs : List UInt8} : P ts bs → Els P n us cs → Els P (n + 1) (ts ++ us) (bs ++ cs)

/-- These are the bytes of an element that is this list. -/
def El : Nat → List E → List UInt8 → Prop
  | 0, ts, bs => ∃ t, ts = [t] ∧ sound t = true ∧ con t.tag = false ∧ bs = hd t.tag t.data.length ++ t.data
  | d + 1, ts, bs => (∃ t, ts = [t] ∧ sound t = true ∧ con t.tag = false ∧ bs = hd t.tag t.data.length ++ t.data) ∨
      ∃ t r body, ts = t :: r ∧ sound t = true ∧ con t.tag = true ∧ bs = hd t.tag body.length ++ body ∧ Els (El d) t.kids.toNat r body

theorem u8_ofNat (n : Nat) (h : n < 256) : (UInt8.ofNat n).toNat = n := by
  rw [UInt8.toNat_ofNat']; omega
theorem u8_ext {a b : UInt8} (h : a.toNat = b.toNat) : a = b := UInt8.toNat_inj.1 h
theorem u8_lt (a : UInt8) : a.toNat < 256 := a.toNat_lt
theorem u8_of (a : UInt8) : UInt8.ofNat a.toNat = a := u8_ext (u8_ofNat _ (u8_lt a))
theorem u8_lt_iff (a : UInt8) : a < 128 ↔ a.toNat < 128 := Iff.rfl

theorem hd_length (t : Int) (n : Nat) : 2 ≤ (hd t n).length ∧ (hd t n).length ≤ 5 := by
  unfold hd
  split
  · simp
  · split
    · simp
    · split <;> simp

theorem meas_hd (t : Int) (body x : List UInt8) (hb : body.length ≤ 65536) :
    meas (hd t body.length ++ body ++ x) = some ((hd t body.length).length, (hd t body.length).length + body.length) := by
  have e81 : (129 : UInt8).toNat = 129 := rfl
  have e82 : (130 : UInt8).toNat = 130 := rfl
  have e83 : (131 : UInt8).toNat = 131 := rfl
  unfold hd
  by_cases h1 : body.length < 128
  · have hn := u8_ofNat body.length (by omega)
    simp only [if_pos h1, List.cons_append, List.nil_append, meas, u8_lt_iff, hn, List.length_append, List.length_cons, List.length_nil]
    rw [if_pos (by omega)]
  · rw [if_neg h1]
    by_cases h2 : body.length < 256
    · have hn := u8_ofNat body.length (by omega)
      have hne : UInt8.ofNat body.length ≠ 0 := fun h => by rw [h] at hn; simp at hn; omega
      simp only [if_pos h2, List.cons_append, List.nil_append, meas, u8_lt_iff, e81]
      rw [if_neg (by omega), if_neg (by simp [hne])]
      simp only [show 129 - 128 = 1 from rfl, List.take_succ_cons, List.take_zero, be, hn, List.length_cons, List.length_append, List.length_nil]
      rw [if_neg (by omega)]
      simp
    · rw [if_neg h2]
      by_cases h3 : body.length < 65536
      · have hn := u8_ofNat (body.length / 256) (by omega)
        have hm := u8_ofNat (body.length % 256) (by omega)
        have hne : UInt8.ofNat (body.length / 256) ≠ 0 := fun h => by rw [h] at hn; simp at hn; omega
        simp only [if_pos h3, List.cons_append, List.nil_append, meas, u8_lt_iff, e82]
        rw [if_neg (by omega), if_neg (by simp [hne])]
        simp only [show 130 - 128 = 2 from rfl, List.take_succ_cons, List.take_zero, be, hn, hm, List.length_cons, List.length_append, List.length_nil]
        have he : (0 * 256 + body.length / 256) * 256 + body.length % 256 = body.length := by omega
        rw [he, if_neg (by omega)]
      · have hl : body.length = 65536 := by omega
        have hn := u8_ofNat (body.length / 65536) (by omega)
        have hm := u8_ofNat (body.length / 256 % 256) (by omega)
        have hk := u8_ofNat (body.length % 256) (by omega)
        have hne : UInt8.ofNat (body.length / 65536) ≠ 0 := fun h => by rw [h] at hn; simp at hn; omega
        simp only [if_neg h3, List.cons_append, List.nil_append, meas, u8_lt_iff, e83]
        rw [if_neg (by omega), if_neg (by simp [hne])]
        simp only [show 131 - 128 = 3 from rfl, List.take_succ_cons, List.take_zero, be, hn, hm, hk, List.length_cons, List.length_append, List.length_nil]
        have he : ((0 * 256 + body.length / 65536) * 256 + body.length / 256 % 256) * 256 + body.length % 256 = body.length := by omega
        rw [he, if_neg (by omega)]

/-- A measured element is a head, the contents, and what is behind. -/
theorem meas_inv {l : List UInt8} {h wl : Nat} (hm : meas l = some (h, wl)) (hl : l.length ≤ 65536) :
    ∃ (t : UInt8) (body x : List UInt8), l = hd (t.toNat : Int) body.length ++ body ++ x ∧ h = (hd (t.toNat : Int) body.length).length ∧ wl = h + body.length ∧ body.length ≤ 65536 := by
  match l, hm, hl with
  | [], hm, _ => simp [meas] at hm
  | [_], hm, _ => simp [meas] at hm
  | t :: x :: r, hm, hl =>
    simp only [List.length_cons] at hl
    simp only [meas] at hm
    by_cases h1 : x < 128
    · rw [if_pos h1] at hm
      have h1' := (u8_lt_iff x).1 h1
      by_cases h2 : x.toNat ≤ r.length
      · rw [if_pos h2] at hm
        simp only [Option.some.injEq, Prod.mk.injEq] at hm
        have hlen : (r.take x.toNat).length = x.toNat := by rw [List.length_take]; omega
        refine ⟨t, r.take x.toNat, r.drop x.toNat, ?_, ?_, ?_, by omega⟩
        · rw [hlen, List.append_assoc, List.take_append_drop]
          simp [hd, h1']
        · rw [hlen]; simp [hd, h1']; omega
        · rw [hlen]; omega
      · rw [if_neg h2] at hm; simp at hm
    · rw [if_neg h1] at hm
      have h1' : ¬ x.toNat < 128 := fun h => h1 ((u8_lt_iff x).2 h)
      by_cases h2 : x.toNat = 128 ∨ 132 < x.toNat ∨ r.length < x.toNat - 128 ∨ r.getD 0 0 = 0
      · rw [if_pos h2] at hm; simp at hm
      · rw [if_neg h2] at hm
        have hxs : x.toNat = 129 ∨ x.toNat = 130 ∨ x.toNat = 131 ∨ x.toNat = 132 := by omega
        have hr0 : r.getD 0 0 ≠ 0 := fun h => h2 (.inr (.inr (.inr h)))
        by_cases h3 : be 0 (r.take (x.toNat - 128)) < 128 ∨ r.length - (x.toNat - 128) < be 0 (r.take (x.toNat - 128))
        · rw [if_pos h3] at hm; simp at hm
        · rw [if_neg h3] at hm
          simp only [Option.some.injEq, Prod.mk.injEq] at hm
          rw [hm.1.symm, hm.2.symm]
          clear hm
          rcases hxs with e | e | e | e
          · rcases r with _ | ⟨a, q⟩
            · exact absurd rfl hr0
            · rw [e] at h3 ⊢
              simp only [show 129 - 128 = 1 from rfl, List.take_succ_cons, List.take_zero, be, List.length_cons] at h3 hl ⊢
              have ha := u8_lt a
              have hlen : (q.take (0 * 256 + a.toNat)).length = 0 * 256 + a.toNat := by rw [List.length_take]; omega
              have hx : x = 0x81 := u8_ext e
              have hh : hd (t.toNat : Int) (0 * 256 + a.toNat) = [t, x, a] := by
                unfold hd
                rw [if_neg (by omega), if_pos (by omega), show 0 * 256 + a.toNat = a.toNat from by omega, u8_of, hx]
                simp
              refine ⟨t, q.take (0 * 256 + a.toNat), q.drop (0 * 256 + a.toNat), ?_, ?_, ?_, by omega⟩
              · rw [hlen, List.append_assoc, List.take_append_drop, hh]; rfl
              · rw [hlen, hh]; rfl
              · rw [hlen]
          · rcases r with _ | ⟨a, _ | ⟨b, q⟩⟩
            · exact absurd rfl hr0
            · simp at h2; omega
            · rw [e] at h3 ⊢
              simp only [show 130 - 128 = 2 from rfl, List.take_succ_cons, List.take_zero, be, List.length_cons] at h3 hl ⊢
              have ha := u8_lt a
              have hb := u8_lt b
              have ha0 : a.toNat ≠ 0 := fun h => hr0 (u8_ext h)
              have hx : x = 0x82 := u8_ext e
              generalize hN : (0 * 256 + a.toNat) * 256 + b.toNat = m at *
              have hlen : (q.take m).length = m := by rw [List.length_take]; omega
              have hh : hd (t.toNat : Int) m = [t, x, a, b] := by
                unfold hd
                rw [if_neg (by omega), if_neg (by omega), if_pos (by omega), show m / 256 = a.toNat from by omega, show m % 256 = b.toNat from by omega, u8_of, u8_of, hx]
                simp
              refine ⟨t, q.take m, q.drop m, ?_, ?_, ?_, by omega⟩
              · rw [hlen, List.append_assoc, List.take_append_drop, hh]; rfl
              · rw [hlen, hh]; rfl
              · rw [hlen]
          · rcases r with _ | ⟨a, _ | ⟨b, _ | ⟨c, q⟩⟩⟩
            · exact absurd rfl hr0
            · simp at h2; omega
            · simp at h2; omega
            · rw [e] at h3 ⊢
              simp only [show 131 - 128 = 3 from rfl, List.take_succ_cons, List.take_zero, be, List.length_cons] at h3 hl ⊢
              have ha := u8_lt a
              have ha0 : a.toNat ≠ 0 := fun h => hr0 (u8_ext h)
              omega
          · rcases r with _ | ⟨a, _ | ⟨b, _ | ⟨c, _ | ⟨dd, q⟩⟩⟩⟩
            · exact absurd rfl hr0
            · simp at h2; omega
            · simp at h2; omega
            · simp at h2; omega
            · rw [e] at h3 ⊢
              simp only [show 132 - 128 = 4 from rfl, List.take_succ_cons, List.take_zero, be, List.length_cons] at h3 hl ⊢
              have ha := u8_lt a
              have ha0 : a.toNat ≠ 0 := fun h => hr0 (u8_ext h)
              omega
end Go.Proofs.Ytkaoobdemaahbaa
