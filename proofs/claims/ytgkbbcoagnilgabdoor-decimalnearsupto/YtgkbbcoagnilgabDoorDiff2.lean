import Derived.Test.YtgkbbcoagnilgabDoorDiff
namespace Go.Proofs.YtgkbbcoagnilgabDoor
open Go.RowKit

/-- What the loop of difference makes of the places below n, with x so far. -/
def dif (a b : Nat → Int) : Nat → Int → Int
  | 0, x => x
  | n + 1, x => if x * 10 + a n - b n < -1099511627776 ∨ 1099511627776 < x * 10 + a n - b n then x * 10 + a n - b n else dif a b n (x * 10 + a n - b n)

theorem dif_out (a b : Nat → Int) (n : Nat) (x : Int) (h : x * 10 + a n - b n < -1099511627776 ∨ 1099511627776 < x * 10 + a n - b n) : dif a b (n + 1) x = x * 10 + a n - b n := by
  unfold dif; rw [if_pos h]
theorem dif_in (a b : Nat → Int) (n : Nat) (x : Int) (h : ¬ (x * 10 + a n - b n < -1099511627776 ∨ 1099511627776 < x * 10 + a n - b n)) : dif a b (n + 1) x = dif a b n (x * 10 + a n - b n) := by
  rw [dif]; rw [if_neg h]

def dif0 (ma : Bool) (da : List UInt8) (mb : Bool) (db : List UInt8) : Int := dif (sd ma da) (sd mb db) (max da.length db.length) 0

/-- The two boxes of difference, in whatever world. -/
structure Boxes (w wr : World) (ma : Bool) (da : List UInt8) (mb : Bool) (db : List UInt8) : Prop where
  a0 : wr.cell? ⟨w.heap.size, 0, none⟩ = some (.bool ma)
  a1 : wr.cell? ⟨w.heap.size, 1, none⟩ = some (.string ⟨da.toArray⟩)
  b0 : wr.cell? ⟨w.heap.size + 1, 0, none⟩ = some (.bool mb)
  b1 : wr.cell? ⟨w.heap.size + 1, 1, none⟩ = some (.string ⟨db.toArray⟩)
  size : w.heap.size + 2 ≤ wr.heap.size

theorem Boxes.alloc {w wr : World} {ma : Bool} {da : List UInt8} {mb : Bool} {db : List UInt8} (h : Boxes w wr ma da mb db) (o : Obj) : Boxes w (wr.alloc o) ma da mb db := by
  have hs := h.size
  exact ⟨(World.cell?_alloc_lt _ _ _ (by show w.heap.size < _; omega)).trans h.a0, (World.cell?_alloc_lt _ _ _ (by show w.heap.size < _; omega)).trans h.a1,
    (World.cell?_alloc_lt _ _ _ (by show w.heap.size + 1 < _; omega)).trans h.b0, (World.cell?_alloc_lt _ _ _ (by show w.heap.size + 1 < _; omega)).trans h.b1, by rw [World.size_alloc]; omega⟩
theorem Boxes.drew {w wr : World} {ma : Bool} {da : List UInt8} {mb : Bool} {db : List UInt8} (h : Boxes w wr ma da mb db) : Boxes w wr.drew ma da mb db := ⟨h.a0, h.a1, h.b0, h.b1, h.size⟩

set_option maxHeartbeats 2000000 in
theorem difference_ge (ma : Bool) (da : List UInt8) (mb : Bool) (db : List UInt8) (w : World) (hda : allD da) (hdb : allD db) (hla : da.length ≤ 281474976710656) (hlb : db.length ≤ 281474976710656) (hsel : db.length ≤ da.length) :
    Calls Tryd.prog 36 #[.agg #[.bool ma, .string ⟨da.toArray⟩], .agg #[.bool mb, .string ⟨db.toArray⟩]] w fun e w' => e = .returned (.int .i64 (dif0 ma da mb db)) ∧ Below w.heap.size w w' := by
  have hN : da.length = max da.length db.length := by omega
  have HN : Hid (dif0 ma da mb db = dif (sd ma da) (sd mb db) da.length 0) := by show _ = _; unfold dif0; rw [← hN]
  have Hda : Hid (∀ k : Nat, k ≤ 281474976710656 → ∀ w, Calls Tryd.prog 68 #[.agg #[.bool ma, .string ⟨da.toArray⟩], .int .i64 k] w fun e w' => e = .returned (.int .i64 (sd ma da k)) ∧ w' = w.alloc (boxP ma da)) := fun k hk w => digit_any ma da k w hda hla hk
  have Hdb : Hid (∀ k : Nat, k ≤ 281474976710656 → ∀ w, Calls Tryd.prog 68 #[.agg #[.bool mb, .string ⟨db.toArray⟩], .int .i64 k] w fun e w' => e = .returned (.int .i64 (sd mb db k)) ∧ w' = w.alloc (boxP mb db)) := fun k hk w => digit_any mb db k w hdb hlb hk
  have Ba := fun k => sd_bd ma da k hda
  have Bb := fun k => sd_bd mb db k hdb
  generalize sd ma da = A at HN Hda Ba
  generalize sd mb db = B at HN Hdb Bb
  have HBa : Hid (∀ k, -9 ≤ A k ∧ A k ≤ 9) := Ba
  have HBb : Hid (∀ k, -9 ≤ B k ∧ B k ≤ 9) := Bb
  clear hN hda hdb Ba Bb
  go_enter Tryd.func36, Tryd.ntmps36
  go_wp2
  go_loopw [5, 6] (fun s5 s6 wr => ∃ (k : Nat) (x : Int), s5 = .int .i64 x ∧ s6 = .int .i64 ((k : Int) - 1) ∧ k ≤ da.length ∧ -1099511627776 ≤ x ∧ x ≤ 1099511627776 ∧ Hid (dif A B da.length 0 = dif A B k x) ∧ Boxes w wr ma da mb db ∧ Below w.heap.size w wr) (fun _ s6 _ => (intOf s6 + 1).toNat)
  case atStart =>
    refine ⟨da.length, 0, rfl, rfl, Nat.le_refl _, by omega, by omega, rfl, ⟨?_, ?_, ?_, ?_, ?_⟩, ?_⟩
    · go_simp
    · go_simp
    · go_simp
    · go_simp
    · simp
    · (repeat' (first | with_reducible assumption | with_reducible exact Below.refl _ _ | with_reducible exact Nat.le_refl _ | with_reducible refine Below.setCell ?_ ?_ _ | with_reducible refine Below.alloc ?_ ?_ _ | with_reducible apply Below.drew | with_reducible apply below_drewN | omega | (simp; done) | (simp; omega)))
  case round =>
    obtain ⟨k, x, rfl, rfl, hk, hx1, hx2, Hdif, hbox, hbel⟩ := hrel
    rcases k with _ | n
    · have Hd0 : Hid (dif A B da.length 0 = x) := Hdif
      clear Hdif hbox
      go_wp2
      go_ret
      rw [HN.out, Hd0.out]
      exact ⟨rfl, hbel⟩
    · have hn1 : ((n + 1 : Nat) : Int) - 1 = (n : Int) := by omega
      rw [hn1]
      clear hn1
      obtain ⟨av, hav⟩ : ∃ av, av = A n := ⟨_, rfl⟩
      obtain ⟨bv, hbv⟩ : ∃ bv, bv = B n := ⟨_, rfl⟩
      have ha := HBa.out n
      have hb := HBb.out n
      rw [← hav] at ha
      rw [← hbv] at hb
      have hwa : Hid (∀ w, Calls Tryd.prog 68 #[.agg #[.bool ma, .string ⟨da.toArray⟩], .int .i64 n] w fun e w' => e = .returned (.int .i64 av) ∧ w' = w.alloc (boxP ma da)) := by rw [hav]; exact Hda.out n (by omega)
      have hwb : Hid (∀ w, Calls Tryd.prog 68 #[.agg #[.bool mb, .string ⟨db.toArray⟩], .int .i64 n] w fun e w' => e = .returned (.int .i64 bv) ∧ w' = w.alloc (boxP mb db)) := by rw [hbv]; exact Hdb.out n (by omega)
      have Hout : Hid ((x * 10 + av - bv < -1099511627776 ∨ 1099511627776 < x * 10 + av - bv) → dif A B da.length 0 = x * 10 + av - bv) := fun h => by
        rw [Hdif.out, hav, hbv]; rw [hav, hbv] at h; exact dif_out A B n x h
      have Hin : Hid (¬ (x * 10 + av - bv < -1099511627776 ∨ 1099511627776 < x * 10 + av - bv) → dif A B da.length 0 = dif A B n (x * 10 + av - bv)) := fun h => by
        rw [Hdif.out, hav, hbv]; rw [hav, hbv] at h; exact dif_in A B n x h
      obtain ⟨ha1, ha2⟩ := ha
      obtain ⟨hb1, hb2⟩ := hb
      have a0 := hbox.a0
      have a1 := hbox.a1
      have b0 := hbox.b0
      have b1 := hbox.b1
      have a0' := fun o => (hbox.alloc o).a0
      have a1' := fun o => (hbox.alloc o).a1
      have b0' := fun o => (hbox.alloc o).b0
      have b1' := fun o => (hbox.alloc o).b1
      have Hbox : Hid (Boxes w wr ma da mb db) := hbox
      have hbs := hbox.size
      clear hav hbv Hdif hbox
      have hy1 : -10995116277778 ≤ x * 10 + av - bv := by omega
      have hy2 : x * 10 + av - bv ≤ 10995116277778 := by omega
      by_cases hy : x * 10 + av - bv < -1099511627776 ∨ 1099511627776 < x * 10 + av - bv
      · have Hr : Hid (dif A B da.length 0 = x * 10 + av - bv) := Hout.out hy
        have hcase : x * 10 + av - bv < -1099511627776 ∨ (¬ x * 10 + av - bv < -1099511627776 ∧ 1099511627776 < x * 10 + av - bv) := by omega
        clear hy Hout Hin
        rcases hcase with h1 | ⟨h1, h2⟩
        all_goals go_wp2_with fail
        all_goals go_region_with (go_at_call 68; first | (with_reducible refine (hwa.out _).mono ?_; rintro e w4 ⟨rfl, rfl⟩) | (with_reducible refine (hwb.out _).mono ?_; rintro e w4 ⟨rfl, rfl⟩))
        all_goals go_wp2
        all_goals go_ret
        all_goals rw [HN.out, Hr.out]
        all_goals refine ⟨rfl, ?_⟩
        all_goals (repeat' (first | with_reducible assumption | with_reducible exact Below.refl _ _ | with_reducible exact Nat.le_refl _ | with_reducible refine Below.setCell ?_ ?_ _ | with_reducible refine Below.alloc ?_ ?_ _ | with_reducible apply Below.drew | with_reducible apply below_drewN | omega | (simp; done) | (simp; omega)))
      · have h1 : ¬ x * 10 + av - bv < -1099511627776 := by omega
        have h2 : ¬ 1099511627776 < x * 10 + av - bv := by omega
        have Hr : Hid (dif A B da.length 0 = dif A B n (x * 10 + av - bv)) := Hin.out hy
        clear hy Hout Hin
        go_wp2_with fail
        go_region_with (go_at_call 68; first | (with_reducible refine (hwa.out _).mono ?_; rintro e w4 ⟨rfl, rfl⟩) | (with_reducible refine (hwb.out _).mono ?_; rintro e w4 ⟨rfl, rfl⟩))
        all_goals go_wp2
        all_goals go_roundw
        all_goals first
          | (refine ⟨n, x * 10 + av - bv, rfl, rfl, by omega, by omega, by omega, Hr, ?_, ?_⟩
             · (repeat' (first | with_reducible exact Hbox.out | with_reducible apply Boxes.drew | with_reducible apply Boxes.alloc))
             · (repeat' (first | with_reducible assumption | with_reducible exact Below.refl _ _ | with_reducible exact Nat.le_refl _ | with_reducible refine Below.setCell ?_ ?_ _ | with_reducible refine Below.alloc ?_ ?_ _ | with_reducible apply Below.drew | with_reducible apply below_drewN | omega | (simp; done) | (simp; omega))))
          | (simp [intOf] <;> omega)

set_option maxHeartbeats 2000000 in
theorem difference_lt (ma : Bool) (da : List UInt8) (mb : Bool) (db : List UInt8) (w : World) (hda : allD da) (hdb : allD db) (hla : da.length ≤ 281474976710656) (hlb : db.length ≤ 281474976710656) (hsel : da.length < db.length) :
    Calls Tryd.prog 36 #[.agg #[.bool ma, .string ⟨da.toArray⟩], .agg #[.bool mb, .string ⟨db.toArray⟩]] w fun e w' => e = .returned (.int .i64 (dif0 ma da mb db)) ∧ Below w.heap.size w w' := by
  have hN : db.length = max da.length db.length := by omega
  have HN : Hid (dif0 ma da mb db = dif (sd ma da) (sd mb db) db.length 0) := by show _ = _; unfold dif0; rw [← hN]
  have Hda : Hid (∀ k : Nat, k ≤ 281474976710656 → ∀ w, Calls Tryd.prog 68 #[.agg #[.bool ma, .string ⟨da.toArray⟩], .int .i64 k] w fun e w' => e = .returned (.int .i64 (sd ma da k)) ∧ w' = w.alloc (boxP ma da)) := fun k hk w => digit_any ma da k w hda hla hk
  have Hdb : Hid (∀ k : Nat, k ≤ 281474976710656 → ∀ w, Calls Tryd.prog 68 #[.agg #[.bool mb, .string ⟨db.toArray⟩], .int .i64 k] w fun e w' => e = .returned (.int .i64 (sd mb db k)) ∧ w' = w.alloc (boxP mb db)) := fun k hk w => digit_any mb db k w hdb hlb hk
  have Ba := fun k => sd_bd ma da k hda
  have Bb := fun k => sd_bd mb db k hdb
  generalize sd ma da = A at HN Hda Ba
  generalize sd mb db = B at HN Hdb Bb
  have HBa : Hid (∀ k, -9 ≤ A k ∧ A k ≤ 9) := Ba
  have HBb : Hid (∀ k, -9 ≤ B k ∧ B k ≤ 9) := Bb
  clear hN hda hdb Ba Bb
  go_enter Tryd.func36, Tryd.ntmps36
  go_wp2
  go_loopw [5, 6] (fun s5 s6 wr => ∃ (k : Nat) (x : Int), s5 = .int .i64 x ∧ s6 = .int .i64 ((k : Int) - 1) ∧ k ≤ db.length ∧ -1099511627776 ≤ x ∧ x ≤ 1099511627776 ∧ Hid (dif A B db.length 0 = dif A B k x) ∧ Boxes w wr ma da mb db ∧ Below w.heap.size w wr) (fun _ s6 _ => (intOf s6 + 1).toNat)
  case atStart =>
    refine ⟨db.length, 0, rfl, rfl, Nat.le_refl _, by omega, by omega, rfl, ⟨?_, ?_, ?_, ?_, ?_⟩, ?_⟩
    · go_simp
    · go_simp
    · go_simp
    · go_simp
    · simp
    · (repeat' (first | with_reducible assumption | with_reducible exact Below.refl _ _ | with_reducible exact Nat.le_refl _ | with_reducible refine Below.setCell ?_ ?_ _ | with_reducible refine Below.alloc ?_ ?_ _ | with_reducible apply Below.drew | with_reducible apply below_drewN | omega | (simp; done) | (simp; omega)))
  case round =>
    obtain ⟨k, x, rfl, rfl, hk, hx1, hx2, Hdif, hbox, hbel⟩ := hrel
    rcases k with _ | n
    · have Hd0 : Hid (dif A B db.length 0 = x) := Hdif
      clear Hdif hbox
      go_wp2
      go_ret
      rw [HN.out, Hd0.out]
      exact ⟨rfl, hbel⟩
    · have hn1 : ((n + 1 : Nat) : Int) - 1 = (n : Int) := by omega
      rw [hn1]
      clear hn1
      obtain ⟨av, hav⟩ : ∃ av, av = A n := ⟨_, rfl⟩
      obtain ⟨bv, hbv⟩ : ∃ bv, bv = B n := ⟨_, rfl⟩
      have ha := HBa.out n
      have hb := HBb.out n
      rw [← hav] at ha
      rw [← hbv] at hb
      have hwa : Hid (∀ w, Calls Tryd.prog 68 #[.agg #[.bool ma, .string ⟨da.toArray⟩], .int .i64 n] w fun e w' => e = .returned (.int .i64 av) ∧ w' = w.alloc (boxP ma da)) := by rw [hav]; exact Hda.out n (by omega)
      have hwb : Hid (∀ w, Calls Tryd.prog 68 #[.agg #[.bool mb, .string ⟨db.toArray⟩], .int .i64 n] w fun e w' => e = .returned (.int .i64 bv) ∧ w' = w.alloc (boxP mb db)) := by rw [hbv]; exact Hdb.out n (by omega)
      have Hout : Hid ((x * 10 + av - bv < -1099511627776 ∨ 1099511627776 < x * 10 + av - bv) → dif A B db.length 0 = x * 10 + av - bv) := fun h => by
        rw [Hdif.out, hav, hbv]; rw [hav, hbv] at h; exact dif_out A B n x h
      have Hin : Hid (¬ (x * 10 + av - bv < -1099511627776 ∨ 1099511627776 < x * 10 + av - bv) → dif A B db.length 0 = dif A B n (x * 10 + av - bv)) := fun h => by
        rw [Hdif.out, hav, hbv]; rw [hav, hbv] at h; exact dif_in A B n x h
      obtain ⟨ha1, ha2⟩ := ha
      obtain ⟨hb1, hb2⟩ := hb
      have a0 := hbox.a0
      have a1 := hbox.a1
      have b0 := hbox.b0
      have b1 := hbox.b1
      have a0' := fun o => (hbox.alloc o).a0
      have a1' := fun o => (hbox.alloc o).a1
      have b0' := fun o => (hbox.alloc o).b0
      have b1' := fun o => (hbox.alloc o).b1
      have Hbox : Hid (Boxes w wr ma da mb db) := hbox
      have hbs := hbox.size
      clear hav hbv Hdif hbox
      have hy1 : -10995116277778 ≤ x * 10 + av - bv := by omega
      have hy2 : x * 10 + av - bv ≤ 10995116277778 := by omega
      by_cases hy : x * 10 + av - bv < -1099511627776 ∨ 1099511627776 < x * 10 + av - bv
      · have Hr : Hid (dif A B db.length 0 = x * 10 + av - bv) := Hout.out hy
        have hcase : x * 10 + av - bv < -1099511627776 ∨ (¬ x * 10 + av - bv < -1099511627776 ∧ 1099511627776 < x * 10 + av - bv) := by omega
        clear hy Hout Hin
        rcases hcase with h1 | ⟨h1, h2⟩
        all_goals go_wp2_with fail
        all_goals go_region_with (go_at_call 68; first | (with_reducible refine (hwa.out _).mono ?_; rintro e w4 ⟨rfl, rfl⟩) | (with_reducible refine (hwb.out _).mono ?_; rintro e w4 ⟨rfl, rfl⟩))
        all_goals go_wp2
        all_goals go_ret
        all_goals rw [HN.out, Hr.out]
        all_goals refine ⟨rfl, ?_⟩
        all_goals (repeat' (first | with_reducible assumption | with_reducible exact Below.refl _ _ | with_reducible exact Nat.le_refl _ | with_reducible refine Below.setCell ?_ ?_ _ | with_reducible refine Below.alloc ?_ ?_ _ | with_reducible apply Below.drew | with_reducible apply below_drewN | omega | (simp; done) | (simp; omega)))
      · have h1 : ¬ x * 10 + av - bv < -1099511627776 := by omega
        have h2 : ¬ 1099511627776 < x * 10 + av - bv := by omega
        have Hr : Hid (dif A B db.length 0 = dif A B n (x * 10 + av - bv)) := Hin.out hy
        clear hy Hout Hin
        go_wp2_with fail
        go_region_with (go_at_call 68; first | (with_reducible refine (hwa.out _).mono ?_; rintro e w4 ⟨rfl, rfl⟩) | (with_reducible refine (hwb.out _).mono ?_; rintro e w4 ⟨rfl, rfl⟩))
        all_goals go_wp2
        all_goals go_roundw
        all_goals first
          | (refine ⟨n, x * 10 + av - bv, rfl, rfl, by omega, by omega, by omega, Hr, ?_, ?_⟩
             · (repeat' (first | with_reducible exact Hbox.out | with_reducible apply Boxes.drew | with_reducible apply Boxes.alloc))
             · (repeat' (first | with_reducible assumption | with_reducible exact Below.refl _ _ | with_reducible exact Nat.le_refl _ | with_reducible refine Below.setCell ?_ ?_ _ | with_reducible refine Below.alloc ?_ ?_ _ | with_reducible apply Below.drew | with_reducible apply below_drewN | omega | (simp; done) | (simp; omega))))
          | (simp [intOf] <;> omega)

theorem difference_any (ma : Bool) (da : List UInt8) (mb : Bool) (db : List UInt8) (w : World) (hda : allD da) (hdb : allD db) (hla : da.length ≤ 281474976710656) (hlb : db.length ≤ 281474976710656) :
    Calls Tryd.prog 36 #[.agg #[.bool ma, .string ⟨da.toArray⟩], .agg #[.bool mb, .string ⟨db.toArray⟩]] w fun e w' => e = .returned (.int .i64 (dif0 ma da mb db)) ∧ Below w.heap.size w w' := by
  rcases Nat.lt_or_ge da.length db.length with h | h
  · exact difference_lt ma da mb db w hda hdb hla hlb h
  · exact difference_ge ma da mb db w hda hdb hla hlb h

end Go.Proofs.YtgkbbcoagnilgabDoor
