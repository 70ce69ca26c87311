import Derived.Test.YtccfcplhifbjlaaGreatDoorSb
namespace Go.Proofs.YtccfcplhifbjlaaGreatDoor
open Go.RowKit Go.Shelf
set_option maxRecDepth 100000

theorem signs_any (ao : Option Addr) (c : Nat) (l : List UInt8) (w : World) (hl : l.length ≤ 140737488355328) : Calls Tryz.prog 38 #[.slice ao l.length c] w fun e w' => e = .returned (.int .i64 (sgN l : Nat)) ∧ w' = w := by
  have h0 : (8 * (l.length : Int) + 5).tdiv 6 = (sgN l : Nat) := by
    unfold sgN
    rw [Int.tdiv_eq_ediv_of_nonneg (by omega)]
    omega
  have HS : Hid ((8 * (l.length : Int) + 5).tdiv 6 = (sgN l : Nat)) := h0
  clear h0
  go_enter Tryz.func38, Tryz.ntmps38
  go_wp2
  go_ret
  exact ⟨congrArg (fun i => Ending.returned (.int .i64 i)) HS.out, rfl⟩

theorem sgN_le (l : List UInt8) : sgN l ≤ 2 * l.length + 1 := by unfold sgN; omega

theorem sapp2 (a b : List UInt8) : (⟨a.toArray⟩ : ByteArray) ++ ⟨b.toArray⟩ = ⟨(a ++ b).toArray⟩ := by
  apply ByteArray.ext
  simp

set_option maxHeartbeats 1000000 in
theorem compact_any (a1 a2 a3 : Option Addr) (c1 c2 c3 : Nat) (h p s : List UInt8) (w : World) (r1 : Rd w a1 h) (r2 : Rd w a2 p) (r3 : Rd w a3 s) (k1 : h.length ≤ c1) (k2 : p.length ≤ c2) (k3 : s.length ≤ c3) (l1 : h.length ≤ 140737488355328) (l2 : p.length ≤ 140737488355328) (l3 : s.length ≤ 140737488355328) :
    Calls Tryz.prog 15 #[.slice a1 h.length c1, .slice a2 p.length c2, .slice a3 s.length c3] w fun e w' => e = .returned (.tuple #[.string ⟨(cmF h p s).1.toArray⟩, .int .i64 ((cmF h p s).2 : Nat)]) ∧ Below w.heap.size w w' := by
  have S1 := signs_any a1 c1 h w (by omega)
  have S2 := signs_any a2 c2 p w (by omega)
  have S3 := signs_any a3 c3 s w (by omega)
  have E1 := B64.encode_any a1 c1 h w (rd_b64 r1) k1 (by omega)
  have E2 : Hid (∀ w' : World, Below w.heap.size w w' → Calls Tryz.prog 39 #[.slice a2 p.length c2] w' fun e w'' => e = .returned (.string ⟨(B64.enc B64.urlRow p).toArray⟩) ∧ Below w'.heap.size w' w'') := fun w' hb => B64.encode_any a2 c2 p w' (rd_b64 (r2.below hb (Nat.le_refl _))) k2 (by omega)
  have E3 : Hid (∀ w' : World, Below w.heap.size w w' → Calls Tryz.prog 39 #[.slice a3 s.length c3] w' fun e w'' => e = .returned (.string ⟨(B64.enc B64.urlRow s).toArray⟩) ∧ Below w'.heap.size w' w'') := fun w' hb => B64.encode_any a3 c3 s w' (rd_b64 (r3.below hb (Nat.le_refl _))) k3 (by omega)
  have b1 := sgN_le h
  have b2 := sgN_le p
  have b3 := sgN_le s
  by_cases hq : 65536 < sgN h + 1 + sgN p + 1 + sgN s
  · have HF : cmF h p s = ([], 10) := if_pos hq
    rw [HF]
    clear HF E1 E2 E3 r1 r2 r3
    generalize sgN h = n1 at *
    generalize sgN p = n2 at *
    generalize sgN s = n3 at *
    have d1 : decide ((n1 : Int) + 1 + n2 + 1 + n3 > 65536) = true := decide_eq_true (by omega)
    go_enter Tryz.func15, Tryz.ntmps15
    go_wp2_with fail
    refine S1.mono ?_
    rintro e w1 ⟨rfl, rfl⟩
    go_wp2_with fail
    refine S2.mono ?_
    rintro e w2 ⟨rfl, rfl⟩
    go_wp2_with fail
    refine S3.mono ?_
    rintro e w3 ⟨rfl, rfl⟩
    go_wp2
    go_ret2
    exact ⟨rfl, Below.refl _ _⟩
  · have HF : cmF h p s = (B64.enc B64.urlRow h ++ [46] ++ B64.enc B64.urlRow p ++ [46] ++ B64.enc B64.urlRow s, 0) := if_neg hq
    rw [HF]
    clear HF r1 r2 r3
    have m1 := enc_sgN h
    have m2 := enc_sgN p
    have m3 := enc_sgN s
    generalize B64.enc B64.urlRow h = x1 at *
    generalize B64.enc B64.urlRow p = x2 at *
    generalize B64.enc B64.urlRow s = x3 at *
    generalize sgN h = n1 at *
    generalize sgN p = n2 at *
    generalize sgN s = n3 at *
    have d1 : decide ((n1 : Int) + 1 + n2 + 1 + n3 > 65536) = false := decide_eq_false (by omega)
    have HA : Hid ((⟨x1.toArray⟩ : ByteArray) ++ ⟨#[46]⟩ ++ ⟨x2.toArray⟩ ++ ⟨#[46]⟩ ++ ⟨x3.toArray⟩ = ⟨(x1 ++ [46] ++ x2 ++ [46] ++ x3).toArray⟩) := by
      have e : (⟨x1.toArray⟩ : ByteArray) ++ ⟨([46] : List UInt8).toArray⟩ ++ ⟨x2.toArray⟩ ++ ⟨([46] : List UInt8).toArray⟩ ++ ⟨x3.toArray⟩ = ⟨(x1 ++ [46] ++ x2 ++ [46] ++ x3).toArray⟩ := by
        rw [sapp2, sapp2, sapp2, sapp2]
      exact e
    go_enter Tryz.func15, Tryz.ntmps15
    go_wp2_with fail
    refine S1.mono ?_
    rintro e w1 ⟨rfl, rfl⟩
    go_wp2_with fail
    refine S2.mono ?_
    rintro e w2 ⟨rfl, rfl⟩
    go_wp2_with fail
    refine S3.mono ?_
    rintro e w3 ⟨rfl, rfl⟩
    clear S1 S2 S3
    go_wp2_with fail
    refine E1.mono ?_
    clear E1
    rintro e w4 ⟨rfl, B4⟩
    have HB4 : Hid (Below w3.heap.size w3 w4) := B4
    clear B4
    go_wp2_with fail
    refine (E2.out _ HB4.out).mono ?_
    clear E2
    rintro e w5 ⟨rfl, B5⟩
    have HB5 : Hid (Below w3.heap.size w3 w5) := HB4.out.trans (B5.mono HB4.out.size)
    clear B5 HB4
    go_wp2_with fail
    refine (E3.out _ HB5.out).mono ?_
    clear E3
    rintro e w6 ⟨rfl, B6⟩
    have HB6 : Hid (Below w3.heap.size w3 w6) := HB5.out.trans (B6.mono HB5.out.size)
    clear B6 HB5
    go_wp2
    go_ret2
    exact ⟨congrArg (fun x => Ending.returned (.tuple #[.string x, .int .i64 0])) HA.out, HB6.out⟩

theorem cmF_len (h p s : List UInt8) : (B64.enc B64.urlRow h ++ [46] ++ B64.enc B64.urlRow p ++ [46] ++ B64.enc B64.urlRow s).length = sgN h + 1 + sgN p + 1 + sgN s := by
  have m1 := enc_sgN h
  have m2 := enc_sgN p
  have m3 := enc_sgN s
  simp only [List.length_append, List.length_cons, List.length_nil]
  omega

end Go.Proofs.YtccfcplhifbjlaaGreatDoor
