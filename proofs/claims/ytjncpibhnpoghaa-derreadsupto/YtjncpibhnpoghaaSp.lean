import Derived.Test.YtjncpibhnpoghaaKp5
import Derived.Test.YtjncpibhnpoghaaOneLaw
namespace Go.Proofs.Ytjncpibhnpoghaa
open Go.RowKit

theorem El_bound : ∀ (d : Nat) (ts : List E) (bs : List UInt8), El d ts bs → ts.length ≤ bs.length ∧ ∀ t ∈ ts, t.data.length ≤ bs.length := by
  have e1 : ∀ {P : List E → List UInt8 → Prop}, (∀ ts bs, P ts bs → ts.length ≤ bs.length ∧ ∀ t ∈ ts, t.data.length ≤ bs.length) → ∀ {n ts bs}, Els P n ts bs → ts.length ≤ bs.length ∧ ∀ t ∈ ts, t.data.length ≤ bs.length := by
    intro P hP n ts bs h
    induction h with
    | nil => exact ⟨Nat.le_refl _, fun t ht => by cases ht⟩
    | cons h1 h2 ih =>
      have := hP _ _ h1
      rw [List.length_append, List.length_append]
      refine ⟨by omega, fun t ht => ?_⟩
      rcases List.mem_append.1 ht with ht | ht
      · have := this.2 t ht; omega
      · have := ih.2 t ht; omega
  intro d
  induction d with
  | zero =>
    rintro ts bs ⟨t, rfl, _, _, rfl⟩
    have := (hd_length t.tag t.data.length).1
    rw [List.length_append]
    refine ⟨by simp; omega, fun u hu => ?_⟩
    rw [List.mem_singleton.1 hu]
    omega
  | succ d ih =>
    rintro ts bs (⟨t, rfl, _, _, rfl⟩ | ⟨t, q, body, rfl, hs, hc, rfl, hk⟩)
    · have := (hd_length t.tag t.data.length).1
      rw [List.length_append]
      refine ⟨by simp; omega, fun u hu => ?_⟩
      rw [List.mem_singleton.1 hu]
      omega
    · have h1 := e1 ih hk
      have := (hd_length t.tag body.length).1
      have h0 := (data_con hs hc).1
      rw [List.length_append, List.length_cons]
      refine ⟨by omega, fun u hu => ?_⟩
      rcases List.mem_cons.1 hu with rfl | hu
      · rw [h0]; exact Nat.zero_le _
      · have := h1.2 u hu; omega
theorem parse_bound (l : List UInt8) : (parse l).1.length ≤ 65536 ∧ ∀ t ∈ (parse l).1, t.data.length ≤ 65536 := by
  by_cases h : (parse l).2.1 = 0
  · obtain ⟨h1, _, h3, _⟩ := parse_good h
    have := El_bound _ _ _ h1
    exact ⟨by omega, fun t ht => by have := this.2 t ht; omega⟩
  · rw [(parse_err h).1]
    exact ⟨by simp, fun t ht => by cases ht⟩
theorem lst_bound {l : List UInt8} {xs : List X} (h : es xs = (parse l).1) : xs.length ≤ 65536 ∧ ∀ x ∈ xs, x.e.data.length ≤ 65536 := by
  have hb := parse_bound l
  rw [← h] at hb
  refine ⟨by simpa [es] using hb.1, fun x hx => hb.2 x.e (List.mem_map.2 ⟨x, hx, rfl⟩)⟩

theorem Fr.trans' {xs ys : List X} {a b c : World} (h : Fr xs a b) (h2 : Fr ys b c) (hy : ∀ y ∈ ys, ∃ x ∈ xs, xD y = xD x) : Fr xs a c :=
  ⟨h2.os.trans h.os, h2.tape.trans h.tape, h2.output.trans h.output, Nat.le_trans h.size h2.size, fun k hk hne => by
    rw [h2.block k (Nat.lt_of_lt_of_le hk h.size) (fun y hyy e => by
      obtain ⟨x, hx, ex⟩ := hy y hyy
      exact hne x hx (by rw [← ex]; exact e))]
    exact h.block k hk hne⟩
theorem fulls_dat (p : Int) (xs : List X) (i : Nat) (h : ∀ x ∈ xs, x.e.data.length ≤ 65536) : ∀ y ∈ fulls p i xs, y.e.data.length ≤ 65536 := fun y hy => by
  obtain ⟨x, hx, e⟩ := fulls_mem p xs i y hy
  have := h x hx
  simp only [xD, Value.slice.injEq] at e
  omega

set_option maxRecDepth 100000 in
theorem spoil_any (base : Nat) (w : World) (lv : Value) (xs : List X) (hL : Lst base w lv xs) (hn : xs.length ≤ 65536) (hd : ∀ x ∈ xs, x.e.data.length ≤ 65536) :
    Calls Try.prog 10 #[lv] w fun e w' => e = .returned (.bool true) ∧ Fr xs w w' := by
  have C0 := keeps_any base w lv xs 0 hL (.inl rfl) hn hd
  have H1 : Hid (∀ w1, Lst base w1 lv (fulls 0 0 xs) → Calls Try.prog 24 #[lv, .int .i64 1] w1 fun e w' => e = .returned (.bool true) ∧ Lst base w' lv (fulls 1 0 (fulls 0 0 xs)) ∧ Fr (fulls 0 0 xs) w1 w') := fun w1 h1 =>
    keeps_any base w1 lv (fulls 0 0 xs) 1 h1 (.inr (.inl rfl)) (by rw [fulls_length]; exact hn) (fulls_dat 0 xs 0 hd)
  have H2 : Hid (∀ w1, Lst base w1 lv (fulls 1 0 (fulls 0 0 xs)) → Calls Try.prog 24 #[lv, .int .i64 2] w1 fun e w' => e = .returned (.bool true) ∧ Lst base w' lv (fulls 2 0 (fulls 1 0 (fulls 0 0 xs))) ∧ Fr (fulls 1 0 (fulls 0 0 xs)) w1 w') := fun w1 h1 =>
    keeps_any base w1 lv (fulls 1 0 (fulls 0 0 xs)) 2 h1 (.inr (.inr rfl)) (by rw [fulls_length, fulls_length]; exact hn) (fulls_dat 1 _ 0 (fulls_dat 0 xs 0 hd))
  have Hm : Hid (∀ (a b c : World), Fr xs w a → Fr (fulls 0 0 xs) a b → Fr (fulls 1 0 (fulls 0 0 xs)) b c → Fr xs w c) := fun a b c h1 h2 h3 =>
    (h1.trans' h2 (fun y hy => fulls_mem 0 xs 0 y hy)).trans' h3 (fun y hy => by
      obtain ⟨x, hx, e⟩ := fulls_mem 1 _ 0 y hy
      obtain ⟨z, hz, e2⟩ := fulls_mem 0 xs 0 x hx
      exact ⟨z, hz, e.trans e2⟩)
  clear hL hd hn
  go_enter Try.func10, Try.ntmps10
  go_wp2_with fail
  refine C0.mono ?_
  rintro e w1 ⟨rfl, hl1, hf1⟩
  clear C0
  have C1 := H1.out w1 hl1
  have F1 : Hid (Fr xs w w1) := hf1
  clear hl1 hf1
  go_wp2_with fail
  refine C1.mono ?_
  rintro e w2 ⟨rfl, hl2, hf2⟩
  clear C1
  have C2 := H2.out w2 hl2
  have F2 : Hid (Fr (fulls 0 0 xs) w1 w2) := hf2
  clear hl2 hf2
  go_wp2_with fail
  refine C2.mono ?_
  rintro e w3 ⟨rfl, _, hf3⟩
  clear C2
  have F3 : Hid (Fr xs w w3) := Hm.out w1 w2 w3 F1.out F2.out hf3
  clear hf3
  go_wp2
  go_ret
  exact ⟨rfl, F3.out⟩

end Go.Proofs.Ytjncpibhnpoghaa
