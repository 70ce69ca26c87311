import Derived.Test.YtkaiecpdkieedaaGreatDoorKZ
namespace Go.Proofs.YtkaiecpdkieedaaGreatDoor
open Go.RowKit

theorem Bl.range {t : TypeId} {w : World} {b : Nat} {vs : List Value} (h : Bl t w b vs) : w.rangeAt b 0 vs := fun j v hv => by
  obtain ⟨hj, e⟩ := List.getElem?_eq_some_iff.1 hv
  rw [Nat.zero_add, ← e]
  exact h.cell j hj

end Go.Proofs.YtkaiecpdkieedaaGreatDoor

namespace Go.Proofs.YtkaiecpdkieedaaGreatDoor
open Go.RowKit

theorem fields_hd : (Tryz.prog.fieldsOf 24).toList = [⟨"Alg", 22, 0, false, "", "", 0⟩, ⟨"Kid", 9, 1, false, "", "", 8⟩, ⟨"Typ", 9, 2, false, "", "", 24⟩, ⟨"HasTyp", 4, 3, false, "", "", 40⟩] := by kernel_rfl
set_option maxRecDepth 100000 in
theorem run_hd (w : World) (n : Hd) : (binOp .eql 24 (.agg #[.int .i64 n.alg, .string ⟨n.kid.toArray⟩, .string ⟨n.typ.toArray⟩, .bool n.has]) (.agg #[.int .i64 n.alg, .string ⟨n.kid.toArray⟩, .string ⟨n.typ.toArray⟩, .bool n.has])).run Tryz.prog w = .ok (.bool true) w := by
  have ht : Tryz.prog.underlying 24 = some (.struct (Tryz.prog.fieldsOf 24)) := by kernel_rfl
  have hp : Tryz.prog.stoodInHeld 24 = false := by kernel_rfl
  have ua : Tryz.prog.underlying 22 = some (.int .i64) := by kernel_rfl
  have u9 : Tryz.prog.underlying 9 = some .string := by kernel_rfl
  have u4 : Tryz.prog.underlying 4 = some .bool := by kernel_rfl
  have e1 : (Op.equalIn 9999 22 (.int .i64 n.alg) (.int .i64 n.alg)).run Tryz.prog w = .ok (n.alg == n.alg) w := run_equalIn_int w 9998 22 .i64 .i64 n.alg n.alg ua
  have e2 : (Op.equalIn 9999 9 (.string ⟨n.kid.toArray⟩) (.string ⟨n.kid.toArray⟩)).run Tryz.prog w = .ok ((⟨n.kid.toArray⟩ : ByteArray).toList == (⟨n.kid.toArray⟩ : ByteArray).toList) w := run_equalIn_string w 9998 9 _ _ u9
  have e3 : (Op.equalIn 9999 9 (.string ⟨n.typ.toArray⟩) (.string ⟨n.typ.toArray⟩)).run Tryz.prog w = .ok ((⟨n.typ.toArray⟩ : ByteArray).toList == (⟨n.typ.toArray⟩ : ByteArray).toList) w := run_equalIn_string w 9998 9 _ _ u9
  have e4 : (Op.equalIn 9999 4 (.bool n.has) (.bool n.has)).run Tryz.prog w = .ok (n.has == n.has) w := run_equalIn_bool' w 9998 4 _ _ u4
  rw [run_eql_struct]
  show Result.andThen ((Op.equalIn (9999 + 1) 24 _ _).run Tryz.prog w) _ = _
  rw [run_equalIn_struct w 9999 24 _ _ ht hp, fields_hd]
  rw [eqf_step (x := .int .i64 n.alg) (y := .int .i64 n.alg) (by decide) (by kernel_rfl) (by kernel_rfl) e1]
  rw [eqf_step (x := .string ⟨n.kid.toArray⟩) (y := .string ⟨n.kid.toArray⟩) (by decide) (by kernel_rfl) (by kernel_rfl) e2]
  rw [eqf_step (x := .string ⟨n.typ.toArray⟩) (y := .string ⟨n.typ.toArray⟩) (by decide) (by kernel_rfl) (by kernel_rfl) e3]
  rw [eqf_step (x := .bool n.has) (y := .bool n.has) (by decide) (by kernel_rfl) (by kernel_rfl) e4]
  have hn : (Op.eqFields 9999 #[.int .i64 n.alg, .string ⟨n.kid.toArray⟩, .string ⟨n.typ.toArray⟩, .bool n.has] #[.int .i64 n.alg, .string ⟨n.kid.toArray⟩, .string ⟨n.typ.toArray⟩, .bool n.has] []).run Tryz.prog w = .ok true w := rfl
  rw [hn, bytes_beq, bytes_beq]
  simp
theorem run_hd_ne (w : World) (n : Hd) : (binOp .neq 24 (.agg #[.int .i64 n.alg, .string ⟨n.kid.toArray⟩, .string ⟨n.typ.toArray⟩, .bool n.has]) (.agg #[.int .i64 n.alg, .string ⟨n.kid.toArray⟩, .string ⟨n.typ.toArray⟩, .bool n.has])).run Tryz.prog w = .ok (.bool false) w := by
  have h := run_hd w n
  rw [run_eql_struct] at h
  rw [run_neq_struct]
  revert h
  generalize (Op.equalIn 10000 24 _ _).run Tryz.prog w = r
  intro h
  cases r with
  | ok b w' =>
    simp only [Result.andThen_ok] at h ⊢
    cases h
    rfl
  | _ => cases h

theorem rd_tb {v : List Nd} {M : Nat} (hv : ∀ i, (v.getD i (nd0 0)).text.length ≤ M) : ∀ (K : List Nat) (s s' : Hs), rdL v K s = some s' → s.h.kid.length ≤ M ∧ s.h.typ.length ≤ M → s'.h.kid.length ≤ M ∧ s'.h.typ.length ≤ M
  | [], s, s', h, hb => by cases h; exact hb
  | k :: r, s, s', h, hb => by
    unfold rdL at h
    split at h
    · cases h
    · rename_i s1 e
      refine rd_tb hv r s1 s' h ?_
      have hk := hv k
      unfold setH at e
      split at e
      · cases e
      · split at e
        · cases e; exact hb
        · split at e
          · cases e; exact ⟨hk, hb.2⟩
          · split at e
            · cases e; exact ⟨hb.1, hk⟩
            · cases e
theorem hparse_tb (t : List UInt8) : (hparseF t).1.kid.length ≤ 1073741824 ∧ (hparseF t).1.typ.length ≤ 1073741824 := by
  have hb := (parse_bd t).2
  unfold hparseF
  split
  · exact ⟨Nat.zero_le _, Nat.zero_le _⟩
  · split
    · exact ⟨Nat.zero_le _, Nat.zero_le _⟩
    · rename_i s e
      split
      · exact ⟨Nat.zero_le _, Nat.zero_le _⟩
      · unfold readF at e
        split at e
        · cases e
        · split at e
          · cases e
          · rename_i s1 e1
            split at e
            · cases e
              refine rd_tb (fun i => ?_) _ _ _ e1 ⟨Nat.zero_le _, Nat.zero_le _⟩
              rcases Nat.lt_or_ge i (parseF t).1.length with hi | hi
              · refine (hb _ ?_).1
                rw [List.getD_eq_getElem?_getD, List.getElem?_eq_getElem hi]
                exact List.getElem_mem hi
              · rw [List.getD_eq_getElem?_getD, List.getElem?_eq_none hi]
                exact Nat.zero_le _
            · cases e

end Go.Proofs.YtkaiecpdkieedaaGreatDoor
