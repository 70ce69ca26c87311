import Derived.Test.YtfpimcmhooiooaaGreatDoorKZ
namespace Go.Proofs.YtfpimcmhooiooaaGreatDoor
open Go.RowKit

theorem Bl.range {t : TypeId} {w : World} {b : Nat} {vs : List Value} (h : Bl t w b vs) : w.rangeAt b 0 vs := fun j v hv => by
  obtain ⟨hj, e⟩ := List.getElem?_eq_some_iff.1 hv
  rw [Nat.zero_add, ← e]
  exact h.cell j hj

set_option maxRecDepth 100000 in
set_option maxHeartbeats 8000000 in
theorem typ_any (ao : Option Addr) (cap : Nat) (l : List (List UInt8)) (iss : ByteArray) (hi : Bool) (aud : ByteArray) (ha : Bool) (ty : List UInt8) (wt : Bool) (lee : Int) (na : Option Addr) (nl nc : Nat) (h : Hd) (w : World)
    (hR : TR w (.slice ao l.length cap) l ao cap) (hl : l.length ≤ 9223372036854775807) (hG : GL w.heap.size w) (hA : Alg w) :
    Calls Tryz.prog 4 #[plV (.slice ao l.length cap) iss hi aud ha ty wt lee (.slice na nl nc), hdV h] w fun e w' => e = .returned (.bool true) ∧ Below w.heap.size w w' := by
  have HAL : Hid (∀ (x : Bool) wq, Below w.heap.size w wq → Calls Tryz.prog 9 #[plV (.slice ao l.length cap) iss hi aud ha ty x lee (.slice na nl nc), hdV h] wq fun e w' => e = .returned (.int .i64 (allowF l x ty h : Nat)) ∧ Below wq.heap.size wq w') := fun x wq hq => allow_any ao cap l iss hi aud ha ty x lee (.slice na nl nc) h wq (hR.below hq (Nat.le_refl _)) hl (hA.bel hq (Nat.le_refl _))
  have HST : Hid (∀ wq, Below w.heap.size w wq → Calls Tryz.prog 8 #[] wq fun e w' => e = .returned (.bool true) ∧ Below wq.heap.size wq w') := fun wq hq => started_any wq ((hG.below hq).up hq.size) (hA.bel hq (Nat.le_refl _))
  obtain ⟨alg, kid, typ, has⟩ := h
  obtain ⟨E, hE⟩ : ∃ E, allowF l wt ty ⟨alg, kid, typ, has⟩ = E := ⟨_, rfl⟩
  obtain ⟨F, hF⟩ : ∃ F, allowF l false ty ⟨alg, kid, typ, has⟩ = F := ⟨_, rfl⟩
  have key : (E = 112 ∧ F = 112) ∨ (F = 0 ∧ wt = false ∧ E = 0) ∨ (F = 0 ∧ wt = true ∧ has = false ∧ E = 113) ∨ (F = 0 ∧ wt = true ∧ has = true ∧ typ = ty ∧ E = 0) ∨ (F = 0 ∧ wt = true ∧ has = true ∧ typ ≠ ty ∧ E = 113) := by
    rw [← hE, ← hF]
    unfold allowF
    by_cases hm : nameF' alg = [] ∨ nameF' alg ∉ l
    · exact Or.inl ⟨if_pos hm, if_pos hm⟩
    · right
      simp only [hm, if_false]
      cases wt <;> cases has <;> by_cases ht : typ = ty <;> simp [ht]
  have CA1 : Hid (∀ wq, Below w.heap.size w wq → Calls Tryz.prog 9 #[.agg (([.slice ao l.length cap, .string iss, .bool hi, .string aud, .bool ha, .string ⟨ty.toArray⟩, .bool wt, .int .i64 lee, .slice na nl nc] : List Value).toArray), .agg (([.int .i64 alg, .string ⟨kid.toArray⟩, .string ⟨typ.toArray⟩, .bool has] : List Value).toArray)] wq fun e w' => e = .returned (.int .i64 (E : Nat)) ∧ Below wq.heap.size wq w') := fun wq hq => by
    have := HAL.out wt wq hq
    rw [hE] at this
    exact this
  have CA2 : Hid (∀ wq, Below w.heap.size w wq → Calls Tryz.prog 9 #[.agg (([.slice ao l.length cap, .string iss, .bool hi, .string aud, .bool ha, .string ⟨ty.toArray⟩, .bool false, .int .i64 lee, .slice na nl nc] : List Value).toArray), .agg (([.int .i64 alg, .string ⟨kid.toArray⟩, .string ⟨typ.toArray⟩, .bool has] : List Value).toArray)] wq fun e w' => e = .returned (.int .i64 (F : Nat)) ∧ Below wq.heap.size wq w') := fun wq hq => by
    have := HAL.out false wq hq
    rw [hF] at this
    exact this
  clear HAL hE hF hR hG hA
  unfold plV hdV
  dsimp only
  obtain ⟨W, hW⟩ : ∃ W : World, W = (w.alloc (.cells (([.slice ao l.length cap, .string iss, .bool hi, .string aud, .bool ha, .string ⟨ty.toArray⟩, .bool wt, .int .i64 lee, .slice na nl nc] : List Value).toArray) 24)).alloc (.cells (([.int .i64 alg, .string ⟨kid.toArray⟩, .string ⟨typ.toArray⟩, .bool has] : List Value).toArray) 27) := ⟨_, rfl⟩
  have hB : Below w.heap.size w W := by rw [hW]; exact ((alloc_below _ _).mono (Nat.le_refl _)).trans ((alloc_below _ _).mono (by simp))
  have b1 : Bl 24 W w.heap.size [.slice ao l.length cap, .string iss, .bool hi, .string aud, .bool ha, .string ⟨ty.toArray⟩, .bool wt, .int .i64 lee, .slice na nl nc] := by
    rw [hW]
    exact (alloc_bl w _ _).below (alloc_below _ _) (by simp)
  have b2 : Bl 27 W (w.heap.size + 1) [.int .i64 alg, .string ⟨kid.toArray⟩, .string ⟨typ.toArray⟩, .bool has] := by
    have := alloc_bl (w.alloc (.cells (([.slice ao l.length cap, .string iss, .bool hi, .string aud, .bool ha, .string ⟨ty.toArray⟩, .bool wt, .int .i64 lee, .slice na nl nc] : List Value).toArray) 24)) [.int .i64 alg, .string ⟨kid.toArray⟩, .string ⟨typ.toArray⟩, .bool has] 27
    rw [hW]
    simpa using this
  have hs1 : w.heap.size < W.heap.size := b1.lt
  have hs2 : w.heap.size + 1 < W.heap.size := b2.lt
  have HP : Hid (∀ wq, Below W.heap.size W wq → Bl 24 wq w.heap.size [.slice ao l.length cap, .string iss, .bool hi, .string aud, .bool ha, .string ⟨ty.toArray⟩, .bool wt, .int .i64 lee, .slice na nl nc]) := fun wq hq => b1.below hq hs1
  have HH : Hid (∀ wq, Below W.heap.size W wq → Bl 27 wq (w.heap.size + 1) [.int .i64 alg, .string ⟨kid.toArray⟩, .string ⟨typ.toArray⟩, .bool has]) := fun wq hq => b2.below hq hs2
  have HB : Hid (∀ wq, Below W.heap.size W wq → Below w.heap.size w wq) := fun wq hq => hB.trans (hq.mono (Nat.le_of_lt hs1))
  have hcp : (Tryz.prog.info? 24).map (·.size) = some ([.slice ao l.length cap, .string iss, .bool hi, .string aud, .bool ha, .string ⟨ty.toArray⟩, .bool wt, .int .i64 lee, .slice na nl nc] : List Value).length := by kernel_rfl
  have hcf : (Tryz.prog.info? 24).map (·.size) = some ([.slice ao l.length cap, .string iss, .bool hi, .string aud, .bool ha, .string ⟨ty.toArray⟩, .bool false, .int .i64 lee, .slice na nl nc] : List Value).length := by kernel_rfl
  have hch : (Tryz.prog.info? 27).map (·.size) = some ([.int .i64 alg, .string ⟨kid.toArray⟩, .string ⟨typ.toArray⟩, .bool has] : List Value).length := by kernel_rfl
  have C0 := HST.out W hB
  clear HST b1 b2 hB hs1 hs2
  go_enter Tryz.func4, Tryz.ntmps4
  go_wp2_with fail
  rw [← hW]
  clear hW
  refine C0.mono ?_
  clear C0
  rintro e w1 ⟨rfl, hB1⟩
  have p1 := (HP.out w1 hB1).range
  have q1 := (HH.out w1 hB1).range
  have C1 := CA1.out w1 (HB.out w1 hB1)
  clear CA1
  go_wp2_with (first | (refine wpList_load_mid rfl 24 (.tmp 2) rfl w.heap.size 0 rfl [.slice ao l.length cap, .string iss, .bool hi, .string aud, .bool ha, .string ⟨ty.toArray⟩, .bool wt, .int .i64 lee, .slice na nl nc] _ p1 Tryz.underlying24 rfl hcp ?_) | (refine wpList_load_mid rfl 27 (.tmp 3) rfl (w.heap.size + 1) 0 rfl [.int .i64 alg, .string ⟨kid.toArray⟩, .string ⟨typ.toArray⟩, .bool has] _ q1 Tryz.underlying27 rfl hch ?_))
  refine C1.mono ?_
  clear C1 p1 q1
  rintro e w2 ⟨rfl, hB2⟩
  have HB2 : Hid (Below W.heap.size W w2) := hB1.trans (hB2.mono hB1.size)
  have p2 := (HP.out w2 HB2.out).range
  clear hB1 hB2
  obtain ⟨w3, hw3⟩ : ∃ w3 : World, w2.alloc (.cells (([.slice ao l.length cap, .string iss, .bool hi, .string aud, .bool ha, .string ⟨ty.toArray⟩, .bool false, .int .i64 lee, .slice na nl nc] : List Value).toArray) 24) = w3 := ⟨_, rfl⟩
  have hb3 : Bl 24 w3 w2.heap.size [.slice ao l.length cap, .string iss, .bool hi, .string aud, .bool ha, .string ⟨ty.toArray⟩, .bool false, .int .i64 lee, .slice na nl nc] := by rw [← hw3]; exact alloc_bl _ _ _
  have hB3 : Below W.heap.size W w3 := by rw [← hw3]; exact HB2.out.trans ((alloc_below _ _).mono HB2.out.size)
  have p3 := hb3.range
  have q3 := (HH.out w3 hB3).range
  have C3 := CA2.out w3 (HB.out w3 hB3)
  clear CA2 HB2
  go_wp2_with (first | (refine wpList_load_mid rfl 24 (.tmp 2) rfl w.heap.size 0 rfl [.slice ao l.length cap, .string iss, .bool hi, .string aud, .bool ha, .string ⟨ty.toArray⟩, .bool wt, .int .i64 lee, .slice na nl nc] _ p2 Tryz.underlying24 rfl hcp ?_) | (refine wpList_load_mid rfl 24 (.tmp 6) rfl w2.heap.size 0 rfl [.slice ao l.length cap, .string iss, .bool hi, .string aud, .bool ha, .string ⟨ty.toArray⟩, .bool false, .int .i64 lee, .slice na nl nc] _ p3 Tryz.underlying24 rfl hcf ?_) | (refine wpList_load_mid rfl 27 (.tmp 3) rfl (w.heap.size + 1) 0 rfl [.int .i64 alg, .string ⟨kid.toArray⟩, .string ⟨typ.toArray⟩, .bool has] _ q3 Tryz.underlying27 rfl hch ?_))
  refine C3.mono ?_
  clear C3 p2 p3 q3 hb3 hw3
  rintro e w4 ⟨rfl, hB4⟩
  have hB4' : Below W.heap.size W w4 := hB3.trans (hB4.mono hB3.size)
  have c5 : w4.cell? ⟨w.heap.size, 5, none⟩ = some (.string ⟨ty.toArray⟩) := (HP.out w4 hB4').cell 5 (by simp)
  have c6 : w4.cell? ⟨w.heap.size, 6, none⟩ = some (.bool wt) := (HP.out w4 hB4').cell 6 (by simp)
  have d2 : w4.cell? ⟨w.heap.size + 1, 2, none⟩ = some (.string ⟨typ.toArray⟩) := (HH.out w4 hB4').cell 2 (by simp)
  have d3 : w4.cell? ⟨w.heap.size + 1, 3, none⟩ = some (.bool has) := (HH.out w4 hB4').cell 3 (by simp)
  have HB4 : Hid (Below w.heap.size w w4) := HB.out w4 hB4'
  clear hB3 hB4 hB4' HP HH HB
  rcases key with ⟨rfl, rfl⟩ | ⟨rfl, rfl, rfl⟩ | ⟨rfl, rfl, rfl, rfl⟩ | ⟨rfl, rfl, rfl, rfl, rfl⟩ | ⟨rfl, rfl, rfl, ht, rfl⟩
  · go_wp2
    go_ret
    exact ⟨rfl, HB4.out⟩
  · go_wp2
    go_ret
    exact ⟨rfl, HB4.out⟩
  · go_wp2
    go_ret
    exact ⟨rfl, HB4.out⟩
  · have qt : (typ == typ) = true := by simp
    go_wp2
    go_ret
    exact ⟨rfl, HB4.out⟩
  · have qt : (typ == ty) = false := by simpa using ht
    clear ht
    go_wp2
    go_ret
    exact ⟨rfl, HB4.out⟩

end Go.Proofs.YtfpimcmhooiooaaGreatDoor

namespace Go.Proofs.YtfpimcmhooiooaaGreatDoor
open Go.RowKit

theorem fields_hd : (Tryz.prog.fieldsOf 27).toList = [⟨"Alg", 25, 0, false, "", "", 0⟩, ⟨"Kid", 9, 1, false, "", "", 8⟩, ⟨"Typ", 9, 2, false, "", "", 24⟩, ⟨"HasTyp", 4, 3, false, "", "", 40⟩] := by kernel_rfl
set_option maxRecDepth 100000 in
theorem run_hd (w : World) (n : Hd) : (binOp .eql 27 (.agg #[.int .i64 n.alg, .string ⟨n.kid.toArray⟩, .string ⟨n.typ.toArray⟩, .bool n.has]) (.agg #[.int .i64 n.alg, .string ⟨n.kid.toArray⟩, .string ⟨n.typ.toArray⟩, .bool n.has])).run Tryz.prog w = .ok (.bool true) w := by
  have ht : Tryz.prog.underlying 27 = some (.struct (Tryz.prog.fieldsOf 27)) := by kernel_rfl
  have hp : Tryz.prog.stoodInHeld 27 = false := by kernel_rfl
  have ua : Tryz.prog.underlying 25 = some (.int .i64) := by kernel_rfl
  have u9 : Tryz.prog.underlying 9 = some .string := by kernel_rfl
  have u4 : Tryz.prog.underlying 4 = some .bool := by kernel_rfl
  have e1 : (Op.equalIn 9999 25 (.int .i64 n.alg) (.int .i64 n.alg)).run Tryz.prog w = .ok (n.alg == n.alg) w := run_equalIn_int w 9998 25 .i64 .i64 n.alg n.alg ua
  have e2 : (Op.equalIn 9999 9 (.string ⟨n.kid.toArray⟩) (.string ⟨n.kid.toArray⟩)).run Tryz.prog w = .ok ((⟨n.kid.toArray⟩ : ByteArray).toList == (⟨n.kid.toArray⟩ : ByteArray).toList) w := run_equalIn_string w 9998 9 _ _ u9
  have e3 : (Op.equalIn 9999 9 (.string ⟨n.typ.toArray⟩) (.string ⟨n.typ.toArray⟩)).run Tryz.prog w = .ok ((⟨n.typ.toArray⟩ : ByteArray).toList == (⟨n.typ.toArray⟩ : ByteArray).toList) w := run_equalIn_string w 9998 9 _ _ u9
  have e4 : (Op.equalIn 9999 4 (.bool n.has) (.bool n.has)).run Tryz.prog w = .ok (n.has == n.has) w := run_equalIn_bool' w 9998 4 _ _ u4
  rw [run_eql_struct]
  show Result.andThen ((Op.equalIn (9999 + 1) 27 _ _).run Tryz.prog w) _ = _
  rw [run_equalIn_struct w 9999 27 _ _ ht hp, fields_hd]
  rw [eqf_step (x := .int .i64 n.alg) (y := .int .i64 n.alg) (by decide) (by kernel_rfl) (by kernel_rfl) e1]
  rw [eqf_step (x := .string ⟨n.kid.toArray⟩) (y := .string ⟨n.kid.toArray⟩) (by decide) (by kernel_rfl) (by kernel_rfl) e2]
  rw [eqf_step (x := .string ⟨n.typ.toArray⟩) (y := .string ⟨n.typ.toArray⟩) (by decide) (by kernel_rfl) (by kernel_rfl) e3]
  rw [eqf_step (x := .bool n.has) (y := .bool n.has) (by decide) (by kernel_rfl) (by kernel_rfl) e4]
  have hn : (Op.eqFields 9999 #[.int .i64 n.alg, .string ⟨n.kid.toArray⟩, .string ⟨n.typ.toArray⟩, .bool n.has] #[.int .i64 n.alg, .string ⟨n.kid.toArray⟩, .string ⟨n.typ.toArray⟩, .bool n.has] []).run Tryz.prog w = .ok true w := rfl
  rw [hn, bytes_beq, bytes_beq]
  simp
theorem run_hd_ne (w : World) (n : Hd) : (binOp .neq 27 (.agg #[.int .i64 n.alg, .string ⟨n.kid.toArray⟩, .string ⟨n.typ.toArray⟩, .bool n.has]) (.agg #[.int .i64 n.alg, .string ⟨n.kid.toArray⟩, .string ⟨n.typ.toArray⟩, .bool n.has])).run Tryz.prog w = .ok (.bool false) w := by
  have h := run_hd w n
  rw [run_eql_struct] at h
  rw [run_neq_struct]
  revert h
  generalize (Op.equalIn 10000 27 _ _).run Tryz.prog w = r
  intro h
  cases r with
  | ok b w' =>
    simp only [Result.andThen_ok] at h ⊢
    cases h
    rfl
  | _ => cases h

theorem rd_tb {v : List Nd} {M : Nat} (hv : ∀ i, (v.getD i (nd0 0)).text.length ≤ M) : ∀ (K : List Nat) (s s' : Hs), rdL v K s = some s' → s.h.kid.length ≤ M ∧ s.h.typ.length ≤ M → s'.h.kid.length ≤ M ∧ s'.h.typ.length ≤ M
  | [], s, s', h, hb => by cases h; exact hb
  | k :: r, s, s', h, hb => by
    unfold rdL at h
    split at h
    · cases h
    · rename_i s1 e
      refine rd_tb hv r s1 s' h ?_
      have hk := hv k
      unfold setH at e
      split at e
      · cases e
      · split at e
        · cases e; exact hb
        · split at e
          · cases e; exact ⟨hk, hb.2⟩
          · split at e
            · cases e; exact ⟨hb.1, hk⟩
            · cases e
theorem hparse_tb (t : List UInt8) : (hparseF t).1.kid.length ≤ 1073741824 ∧ (hparseF t).1.typ.length ≤ 1073741824 := by
  have hb := (parse_bd t).2
  unfold hparseF
  split
  · exact ⟨Nat.zero_le _, Nat.zero_le _⟩
  · split
    · exact ⟨Nat.zero_le _, Nat.zero_le _⟩
    · rename_i s e
      split
      · exact ⟨Nat.zero_le _, Nat.zero_le _⟩
      · unfold readF at e
        split at e
        · cases e
        · split at e
          · cases e
          · rename_i s1 e1
            split at e
            · cases e
              refine rd_tb (fun i => ?_) _ _ _ e1 ⟨Nat.zero_le _, Nat.zero_le _⟩
              rcases Nat.lt_or_ge i (parseF t).1.length with hi | hi
              · refine (hb _ ?_).1
                rw [List.getD_eq_getElem?_getD, List.getElem?_eq_getElem hi]
                exact List.getElem_mem hi
              · rw [List.getD_eq_getElem?_getD, List.getElem?_eq_none hi]
                exact Nat.zero_le _
            · cases e

set_option maxRecDepth 100000 in
set_option maxHeartbeats 16000000 in
theorem back_any (h : Hd) (text : List UInt8) (w : World) (hk : h.kid.length ≤ 1073741824) (ht : h.typ.length ≤ 1073741824) (hG : GL w.heap.size w) (hA : Alg w) :
    Calls Tryz.prog 5 #[hdV h, .string ⟨text.toArray⟩] w fun e w' => e = .returned (.bool true) ∧ Below w.heap.size w w' := by
  have HGq : Hid (∀ wq, Below w.heap.size w wq → GL wq.heap.size wq) := fun wq hq => (hG.below hq).up hq.size
  have HAq : Hid (∀ wq, Below w.heap.size w wq → Alg wq) := fun wq hq => hA.bel hq (Nat.le_refl _)
  have HST : Hid (∀ wq, Below w.heap.size w wq → Calls Tryz.prog 8 #[] wq fun e w' => e = .returned (.bool true) ∧ Below wq.heap.size wq w') := fun wq hq => started_any wq (HGq.out wq hq) (HAq.out wq hq)
  have HPr : Hid (∀ wq, Below w.heap.size w wq → Calls Tryz.prog 12 #[hdV h] wq fun e w' => e = .returned (.tuple #[.string ⟨(hprintF h).1.toArray⟩, .int .i64 ((hprintF h).2 : Nat)]) ∧ Below wq.heap.size wq w') := fun wq hq => hprint_any h wq (HGq.out wq hq) (HAq.out wq hq) hk ht
  have HPs : Hid (∀ wq, Below w.heap.size w wq → Calls Tryz.prog 11 #[.string ⟨(hprintF h).1.toArray⟩] wq fun e w' => e = .returned (.tuple #[hdV (hparseF (hprintF h).1).1, .int .i64 ((hparseF (hprintF h).1).2 : Nat)]) ∧ Below wq.heap.size wq w') := fun wq hq => hparse_any _ wq (HGq.out wq hq) (HAq.out wq hq)
  have HF := hprint_facts h
  obtain ⟨K, hK⟩ : ∃ K, hparseF text = K := ⟨_, rfl⟩
  obtain ⟨⟨ka, kk, kt, kh⟩, kc⟩ := K
  obtain ⟨pt, hpt⟩ : ∃ pt, (hprintF ⟨ka, kk, kt, kh⟩).1 = pt := ⟨_, rfl⟩
  have hfk := hparse_facts text
  have hkb := hparse_tb text
  rw [hK] at hfk hkb
  dsimp only at hfk hkb
  have HK : Hid (kc = 0 → pt.length ≤ text.length ∧ hparseF pt = (⟨ka, kk, kt, kh⟩, 0)) := fun h0 => by
    have := hfk h0
    rw [hpt, h0] at this
    exact ⟨this.2.2.1, this.2.2.2⟩
  have HPt : Hid (∀ wq, Below w.heap.size w wq → Calls Tryz.prog 11 #[.string ⟨text.toArray⟩] wq fun e w' => e = .returned (.tuple #[.agg #[.int .i64 ka, .string ⟨kk.toArray⟩, .string ⟨kt.toArray⟩, .bool kh], .int .i64 (kc : Nat)]) ∧ Below wq.heap.size wq w') := fun wq hq => by
    have := hparse_any text wq (HGq.out wq hq) (HAq.out wq hq)
    rw [hK] at this
    exact this
  have HPk : Hid (kc = 0 → ∀ wq, Below w.heap.size w wq → Calls Tryz.prog 12 #[.agg (([.int .i64 ka, .string ⟨kk.toArray⟩, .string ⟨kt.toArray⟩, .bool kh] : List Value).toArray)] wq fun e w' => e = .returned (.tuple #[.string ⟨pt.toArray⟩, .int .i64 0]) ∧ Below wq.heap.size wq w') := fun h0 wq hq => by
    have := hprint_any ⟨ka, kk, kt, kh⟩ wq (HGq.out wq hq) (HAq.out wq hq) hkb.1 hkb.2
    rw [hpt, (hfk h0).2.1] at this
    exact this
  have HPb : Hid (kc = 0 → ∀ wq, Below w.heap.size w wq → Calls Tryz.prog 11 #[.string ⟨pt.toArray⟩] wq fun e w' => e = .returned (.tuple #[.agg #[.int .i64 ka, .string ⟨kk.toArray⟩, .string ⟨kt.toArray⟩, .bool kh], .int .i64 0]) ∧ Below wq.heap.size wq w') := fun h0 wq hq => by
    have := hparse_any pt wq (HGq.out wq hq) (HAq.out wq hq)
    rw [(HK.out h0).2] at this
    exact this
  have hck : (Tryz.prog.info? 27).map (·.size) = some ([.int .i64 ka, .string ⟨kk.toArray⟩, .string ⟨kt.toArray⟩, .bool kh] : List Value).length := by kernel_rfl
  clear hG hA hfk hkb hpt hK HGq HAq hk ht
  obtain ⟨s, hs⟩ : ∃ s, (hprintF h).1 = s := ⟨_, rfl⟩
  obtain ⟨c, hc⟩ : ∃ c, (hprintF h).2 = c := ⟨_, rfl⟩
  rw [hs, hc] at HF HPr
  rw [hs] at HPs
  clear hs hc
  obtain ⟨alg, kid, typ, has⟩ := h
  dsimp only at HF
  unfold hdV at HPr ⊢
  dsimp only at HPr ⊢
  have hch : (Tryz.prog.info? 27).map (·.size) = some ([.int .i64 alg, .string ⟨kid.toArray⟩, .string ⟨typ.toArray⟩, .bool has] : List Value).length := by kernel_rfl
  obtain ⟨W, hW⟩ : ∃ W : World, W = w.alloc (.cells (([.int .i64 alg, .string ⟨kid.toArray⟩, .string ⟨typ.toArray⟩, .bool has] : List Value).toArray) 27) := ⟨_, rfl⟩
  have hB : Below w.heap.size w W := by rw [hW]; exact alloc_below _ _
  have b1 : Bl 27 W w.heap.size [.int .i64 alg, .string ⟨kid.toArray⟩, .string ⟨typ.toArray⟩, .bool has] := by rw [hW]; exact alloc_bl _ _ _
  have hs1 : w.heap.size < W.heap.size := b1.lt
  have HH : Hid (∀ wq, Below W.heap.size W wq → Bl 27 wq w.heap.size [.int .i64 alg, .string ⟨kid.toArray⟩, .string ⟨typ.toArray⟩, .bool has]) := fun wq hq => b1.below hq hs1
  have HB : Hid (∀ wq, Below W.heap.size W wq → Below w.heap.size w wq) := fun wq hq => hB.trans (hq.mono (Nat.le_of_lt hs1))
  have C0 := HST.out W hB
  clear HST b1 hB hs1
  go_enter Tryz.func5, Tryz.ntmps5
  go_wp2_with fail
  rw [← hW]
  clear hW
  refine C0.mono ?_
  clear C0
  rintro e w1 ⟨rfl, hB1⟩
  have q1 := (HH.out w1 hB1).range
  have C1 := HPr.out w1 (HB.out w1 hB1)
  clear HPr
  go_wp2_with (refine wpList_load_mid rfl 27 (.tmp 2) rfl w.heap.size 0 rfl [.int .i64 alg, .string ⟨kid.toArray⟩, .string ⟨typ.toArray⟩, .bool has] _ q1 Tryz.underlying27 rfl hch ?_)
  refine C1.mono ?_
  clear C1 q1
  rintro e w2 ⟨rfl, hB2⟩
  have hB2' : Below W.heap.size W w2 := hB1.trans (hB2.mono hB1.size)
  have q2 := (HH.out w2 hB2').range
  have d3 : w2.cell? ⟨w.heap.size, 3, none⟩ = some (.bool has) := (HH.out w2 hB2').cell 3 (by simp)
  have HW2 : Hid (Below w.heap.size w w2) := HB.out w2 hB2'
  have HHq : Hid (∀ wq, Below w2.heap.size w2 wq → Bl 27 wq w.heap.size [.int .i64 alg, .string ⟨kid.toArray⟩, .string ⟨typ.toArray⟩, .bool has]) := fun wq hq => HH.out wq (hB2'.trans (hq.mono hB2'.size))
  clear hB1 hB2 hB2' HH HB
  rcases HF with ⟨hc0, rfl, hcc⟩ | ⟨rfl, hsl, hps⟩
  · clear HPs q2 HHq
    have hB2 : Below w.heap.size w w2 := HW2.out
    rcases hcc with rfl | rfl | rfl
    · have CT := HPt.out w2 hB2
      have HBt : Hid (Below w.heap.size w w2) := hB2
      clear hB2
      go_wp2_with fail
      refine CT.mono ?_
      clear CT HPt
      rintro e u1 ⟨rfl, hu1⟩
      have HU1 : Hid (Below w.heap.size w u1) := HBt.out.trans (hu1.mono HBt.out.size)
      clear hu1
      obtain ⟨u2, hu2⟩ : ∃ u2 : World, u1.alloc (.cells (([.int .i64 ka, .string ⟨kk.toArray⟩, .string ⟨kt.toArray⟩, .bool kh] : List Value).toArray) 27) = u2 := ⟨_, rfl⟩
      have hb2 : Bl 27 u2 u1.heap.size [.int .i64 ka, .string ⟨kk.toArray⟩, .string ⟨kt.toArray⟩, .bool kh] := by rw [← hu2]; exact alloc_bl _ _ _
      have hB2 : Below w.heap.size w u2 := by rw [← hu2]; exact HU1.out.trans ((alloc_below _ _).mono HU1.out.size)
      by_cases hc : kc = 0
      · subst hc
        obtain ⟨hpr, hpb⟩ := HK.out rfl
        have C2 := HPk.out rfl u2 hB2
        have HPb2 : Hid (∀ wq, Below w.heap.size w wq → Calls Tryz.prog 11 #[.string ⟨pt.toArray⟩] wq fun e w' => e = .returned (.tuple #[.agg #[.int .i64 ka, .string ⟨kk.toArray⟩, .string ⟨kt.toArray⟩, .bool kh], .int .i64 0]) ∧ Below wq.heap.size wq w') := HPb.out rfl
        clear HPb HPk HK
        have q2 := hb2.range
        have HL : Hid (∀ wq, Below u2.heap.size u2 wq → Bl 27 wq u1.heap.size [.int .i64 ka, .string ⟨kk.toArray⟩, .string ⟨kt.toArray⟩, .bool kh]) := fun wq hq => hb2.below hq hb2.lt
        have HU2 : Hid (Below w.heap.size w u2) := hB2
        clear hb2 hB2
        go_wp2_with (refine wpList_load_mid rfl 27 (.tmp 10) rfl u1.heap.size 0 rfl [.int .i64 ka, .string ⟨kk.toArray⟩, .string ⟨kt.toArray⟩, .bool kh] _ q2 Tryz.underlying27 rfl hck ?_)
        refine C2.mono ?_
        clear C2 q2
        rintro e u3 ⟨rfl, hu3⟩
        have HU3 : Hid (Below w.heap.size w u3) := HU2.out.trans (hu3.mono HU2.out.size)
        have C3 := HPb2.out u3 HU3.out
        have HV3 : Hid (Below u2.heap.size u2 u3) := hu3
        clear hu3
        go_wp2_with fail
        refine C3.mono ?_
        clear C3
        rintro e u4 ⟨rfl, hu4⟩
        have HU4 : Hid (Below w.heap.size w u4) := HU3.out.trans (hu4.mono HU3.out.size)
        have HV4 : Hid (Below u2.heap.size u2 u4) := HV3.out.trans (hu4.mono HV3.out.size)
        clear hu4
        obtain ⟨u5, hu5⟩ : ∃ u5 : World, u4.alloc (.cells (([.int .i64 ka, .string ⟨kk.toArray⟩, .string ⟨kt.toArray⟩, .bool kh] : List Value).toArray) 27) = u5 := ⟨_, rfl⟩
        have hb5 : Bl 27 u5 u4.heap.size [.int .i64 ka, .string ⟨kk.toArray⟩, .string ⟨kt.toArray⟩, .bool kh] := by rw [← hu5]; exact alloc_bl _ _ _
        have HU5 : Hid (Below w.heap.size w u5) := by rw [← hu5]; exact HU4.out.trans ((alloc_below _ _).mono HU4.out.size)
        have hb6 := HL.out u5 (by rw [← hu5]; exact HV4.out.trans ((alloc_below _ _).mono HV4.out.size))
        have y0 : u5.cell? ⟨u4.heap.size, 0, none⟩ = some (.int .i64 ka) := hb5.cell 0 (by simp)
        have y1 : u5.cell? ⟨u4.heap.size, 1, none⟩ = some (.string ⟨kk.toArray⟩) := hb5.cell 1 (by simp)
        have y2 : u5.cell? ⟨u4.heap.size, 2, none⟩ = some (.string ⟨kt.toArray⟩) := hb5.cell 2 (by simp)
        have y3 : u5.cell? ⟨u4.heap.size, 3, none⟩ = some (.bool kh) := hb5.cell 3 (by simp)
        have z0 : u5.cell? ⟨u1.heap.size, 0, none⟩ = some (.int .i64 ka) := hb6.cell 0 (by simp)
        have z1 : u5.cell? ⟨u1.heap.size, 1, none⟩ = some (.string ⟨kk.toArray⟩) := hb6.cell 1 (by simp)
        have z2 : u5.cell? ⟨u1.heap.size, 2, none⟩ = some (.string ⟨kt.toArray⟩) := hb6.cell 2 (by simp)
        have z3 : u5.cell? ⟨u1.heap.size, 3, none⟩ = some (.bool kh) := hb6.cell 3 (by simp)
        have req := run_hd u5 ⟨ka, kk, kt, kh⟩
        dsimp only at req
        clear hb5 hb6 HL hpb HPb2
        go_wp2
        go_ret
        exact ⟨rfl, HU5.out⟩
      · have qc : ((kc : Int) == 0) = false := by simp; omega
        have qc' : ((kc : Int) != 0) = true := by simp; omega
        have HU2 : Hid (Below w.heap.size w u2) := hB2
        clear hb2 hB2 hc HK HPk HPb
        go_wp2
        go_ret
        exact ⟨rfl, HU2.out⟩
    · have CT := HPt.out w2 hB2
      have HBt : Hid (Below w.heap.size w w2) := hB2
      clear hB2
      go_wp2_with fail
      refine CT.mono ?_
      clear CT HPt
      rintro e u1 ⟨rfl, hu1⟩
      have HU1 : Hid (Below w.heap.size w u1) := HBt.out.trans (hu1.mono HBt.out.size)
      clear hu1
      obtain ⟨u2, hu2⟩ : ∃ u2 : World, u1.alloc (.cells (([.int .i64 ka, .string ⟨kk.toArray⟩, .string ⟨kt.toArray⟩, .bool kh] : List Value).toArray) 27) = u2 := ⟨_, rfl⟩
      have hb2 : Bl 27 u2 u1.heap.size [.int .i64 ka, .string ⟨kk.toArray⟩, .string ⟨kt.toArray⟩, .bool kh] := by rw [← hu2]; exact alloc_bl _ _ _
      have hB2 : Below w.heap.size w u2 := by rw [← hu2]; exact HU1.out.trans ((alloc_below _ _).mono HU1.out.size)
      by_cases hc : kc = 0
      · subst hc
        obtain ⟨hpr, hpb⟩ := HK.out rfl
        have C2 := HPk.out rfl u2 hB2
        have HPb2 : Hid (∀ wq, Below w.heap.size w wq → Calls Tryz.prog 11 #[.string ⟨pt.toArray⟩] wq fun e w' => e = .returned (.tuple #[.agg #[.int .i64 ka, .string ⟨kk.toArray⟩, .string ⟨kt.toArray⟩, .bool kh], .int .i64 0]) ∧ Below wq.heap.size wq w') := HPb.out rfl
        clear HPb HPk HK
        have q2 := hb2.range
        have HL : Hid (∀ wq, Below u2.heap.size u2 wq → Bl 27 wq u1.heap.size [.int .i64 ka, .string ⟨kk.toArray⟩, .string ⟨kt.toArray⟩, .bool kh]) := fun wq hq => hb2.below hq hb2.lt
        have HU2 : Hid (Below w.heap.size w u2) := hB2
        clear hb2 hB2
        go_wp2_with (refine wpList_load_mid rfl 27 (.tmp 10) rfl u1.heap.size 0 rfl [.int .i64 ka, .string ⟨kk.toArray⟩, .string ⟨kt.toArray⟩, .bool kh] _ q2 Tryz.underlying27 rfl hck ?_)
        refine C2.mono ?_
        clear C2 q2
        rintro e u3 ⟨rfl, hu3⟩
        have HU3 : Hid (Below w.heap.size w u3) := HU2.out.trans (hu3.mono HU2.out.size)
        have C3 := HPb2.out u3 HU3.out
        have HV3 : Hid (Below u2.heap.size u2 u3) := hu3
        clear hu3
        go_wp2_with fail
        refine C3.mono ?_
        clear C3
        rintro e u4 ⟨rfl, hu4⟩
        have HU4 : Hid (Below w.heap.size w u4) := HU3.out.trans (hu4.mono HU3.out.size)
        have HV4 : Hid (Below u2.heap.size u2 u4) := HV3.out.trans (hu4.mono HV3.out.size)
        clear hu4
        obtain ⟨u5, hu5⟩ : ∃ u5 : World, u4.alloc (.cells (([.int .i64 ka, .string ⟨kk.toArray⟩, .string ⟨kt.toArray⟩, .bool kh] : List Value).toArray) 27) = u5 := ⟨_, rfl⟩
        have hb5 : Bl 27 u5 u4.heap.size [.int .i64 ka, .string ⟨kk.toArray⟩, .string ⟨kt.toArray⟩, .bool kh] := by rw [← hu5]; exact alloc_bl _ _ _
        have HU5 : Hid (Below w.heap.size w u5) := by rw [← hu5]; exact HU4.out.trans ((alloc_below _ _).mono HU4.out.size)
        have hb6 := HL.out u5 (by rw [← hu5]; exact HV4.out.trans ((alloc_below _ _).mono HV4.out.size))
        have y0 : u5.cell? ⟨u4.heap.size, 0, none⟩ = some (.int .i64 ka) := hb5.cell 0 (by simp)
        have y1 : u5.cell? ⟨u4.heap.size, 1, none⟩ = some (.string ⟨kk.toArray⟩) := hb5.cell 1 (by simp)
        have y2 : u5.cell? ⟨u4.heap.size, 2, none⟩ = some (.string ⟨kt.toArray⟩) := hb5.cell 2 (by simp)
        have y3 : u5.cell? ⟨u4.heap.size, 3, none⟩ = some (.bool kh) := hb5.cell 3 (by simp)
        have z0 : u5.cell? ⟨u1.heap.size, 0, none⟩ = some (.int .i64 ka) := hb6.cell 0 (by simp)
        have z1 : u5.cell? ⟨u1.heap.size, 1, none⟩ = some (.string ⟨kk.toArray⟩) := hb6.cell 1 (by simp)
        have z2 : u5.cell? ⟨u1.heap.size, 2, none⟩ = some (.string ⟨kt.toArray⟩) := hb6.cell 2 (by simp)
        have z3 : u5.cell? ⟨u1.heap.size, 3, none⟩ = some (.bool kh) := hb6.cell 3 (by simp)
        have req := run_hd u5 ⟨ka, kk, kt, kh⟩
        dsimp only at req
        clear hb5 hb6 HL hpb HPb2
        go_wp2
        go_ret
        exact ⟨rfl, HU5.out⟩
      · have qc : ((kc : Int) == 0) = false := by simp; omega
        have qc' : ((kc : Int) != 0) = true := by simp; omega
        have HU2 : Hid (Below w.heap.size w u2) := hB2
        clear hb2 hB2 hc HK HPk HPb
        go_wp2
        go_ret
        exact ⟨rfl, HU2.out⟩
    · have CT := HPt.out w2 hB2
      have HBt : Hid (Below w.heap.size w w2) := hB2
      clear hB2
      go_wp2_with fail
      refine CT.mono ?_
      clear CT HPt
      rintro e u1 ⟨rfl, hu1⟩
      have HU1 : Hid (Below w.heap.size w u1) := HBt.out.trans (hu1.mono HBt.out.size)
      clear hu1
      obtain ⟨u2, hu2⟩ : ∃ u2 : World, u1.alloc (.cells (([.int .i64 ka, .string ⟨kk.toArray⟩, .string ⟨kt.toArray⟩, .bool kh] : List Value).toArray) 27) = u2 := ⟨_, rfl⟩
      have hb2 : Bl 27 u2 u1.heap.size [.int .i64 ka, .string ⟨kk.toArray⟩, .string ⟨kt.toArray⟩, .bool kh] := by rw [← hu2]; exact alloc_bl _ _ _
      have hB2 : Below w.heap.size w u2 := by rw [← hu2]; exact HU1.out.trans ((alloc_below _ _).mono HU1.out.size)
      by_cases hc : kc = 0
      · subst hc
        obtain ⟨hpr, hpb⟩ := HK.out rfl
        have C2 := HPk.out rfl u2 hB2
        have HPb2 : Hid (∀ wq, Below w.heap.size w wq → Calls Tryz.prog 11 #[.string ⟨pt.toArray⟩] wq fun e w' => e = .returned (.tuple #[.agg #[.int .i64 ka, .string ⟨kk.toArray⟩, .string ⟨kt.toArray⟩, .bool kh], .int .i64 0]) ∧ Below wq.heap.size wq w') := HPb.out rfl
        clear HPb HPk HK
        have q2 := hb2.range
        have HL : Hid (∀ wq, Below u2.heap.size u2 wq → Bl 27 wq u1.heap.size [.int .i64 ka, .string ⟨kk.toArray⟩, .string ⟨kt.toArray⟩, .bool kh]) := fun wq hq => hb2.below hq hb2.lt
        have HU2 : Hid (Below w.heap.size w u2) := hB2
        clear hb2 hB2
        go_wp2_with (refine wpList_load_mid rfl 27 (.tmp 10) rfl u1.heap.size 0 rfl [.int .i64 ka, .string ⟨kk.toArray⟩, .string ⟨kt.toArray⟩, .bool kh] _ q2 Tryz.underlying27 rfl hck ?_)
        refine C2.mono ?_
        clear C2 q2
        rintro e u3 ⟨rfl, hu3⟩
        have HU3 : Hid (Below w.heap.size w u3) := HU2.out.trans (hu3.mono HU2.out.size)
        have C3 := HPb2.out u3 HU3.out
        have HV3 : Hid (Below u2.heap.size u2 u3) := hu3
        clear hu3
        go_wp2_with fail
        refine C3.mono ?_
        clear C3
        rintro e u4 ⟨rfl, hu4⟩
        have HU4 : Hid (Below w.heap.size w u4) := HU3.out.trans (hu4.mono HU3.out.size)
        have HV4 : Hid (Below u2.heap.size u2 u4) := HV3.out.trans (hu4.mono HV3.out.size)
        clear hu4
        obtain ⟨u5, hu5⟩ : ∃ u5 : World, u4.alloc (.cells (([.int .i64 ka, .string ⟨kk.toArray⟩, .string ⟨kt.toArray⟩, .bool kh] : List Value).toArray) 27) = u5 := ⟨_, rfl⟩
        have hb5 : Bl 27 u5 u4.heap.size [.int .i64 ka, .string ⟨kk.toArray⟩, .string ⟨kt.toArray⟩, .bool kh] := by rw [← hu5]; exact alloc_bl _ _ _
        have HU5 : Hid (Below w.heap.size w u5) := by rw [← hu5]; exact HU4.out.trans ((alloc_below _ _).mono HU4.out.size)
        have hb6 := HL.out u5 (by rw [← hu5]; exact HV4.out.trans ((alloc_below _ _).mono HV4.out.size))
        have y0 : u5.cell? ⟨u4.heap.size, 0, none⟩ = some (.int .i64 ka) := hb5.cell 0 (by simp)
        have y1 : u5.cell? ⟨u4.heap.size, 1, none⟩ = some (.string ⟨kk.toArray⟩) := hb5.cell 1 (by simp)
        have y2 : u5.cell? ⟨u4.heap.size, 2, none⟩ = some (.string ⟨kt.toArray⟩) := hb5.cell 2 (by simp)
        have y3 : u5.cell? ⟨u4.heap.size, 3, none⟩ = some (.bool kh) := hb5.cell 3 (by simp)
        have z0 : u5.cell? ⟨u1.heap.size, 0, none⟩ = some (.int .i64 ka) := hb6.cell 0 (by simp)
        have z1 : u5.cell? ⟨u1.heap.size, 1, none⟩ = some (.string ⟨kk.toArray⟩) := hb6.cell 1 (by simp)
        have z2 : u5.cell? ⟨u1.heap.size, 2, none⟩ = some (.string ⟨kt.toArray⟩) := hb6.cell 2 (by simp)
        have z3 : u5.cell? ⟨u1.heap.size, 3, none⟩ = some (.bool kh) := hb6.cell 3 (by simp)
        have req := run_hd u5 ⟨ka, kk, kt, kh⟩
        dsimp only at req
        clear hb5 hb6 HL hpb HPb2
        go_wp2
        go_ret
        exact ⟨rfl, HU5.out⟩
      · have qc : ((kc : Int) == 0) = false := by simp; omega
        have qc' : ((kc : Int) != 0) = true := by simp; omega
        have HU2 : Hid (Below w.heap.size w u2) := hB2
        clear hb2 hB2 hc HK HPk HPb
        go_wp2
        go_ret
        exact ⟨rfl, HU2.out⟩
  · rw [hps] at HPs
    unfold hdV at HPs
    dsimp only at HPs
    have hsb : decide ((s.length : Int) > 262144) = false := decide_eq_false (by omega)
    clear hps hsl
    cases has
    · simp only [Bool.false_eq_true, if_false] at HPs
      obtain ⟨w3, hw3⟩ : ∃ w3 : World, w2.alloc (.cells (([.int .i64 alg, .string ⟨kid.toArray⟩, .string ⟨([] : List UInt8).toArray⟩, .bool false] : List Value).toArray) 27) = w3 := ⟨_, rfl⟩
      have hb3 : Bl 27 w3 w2.heap.size [.int .i64 alg, .string ⟨kid.toArray⟩, .string ⟨([] : List UInt8).toArray⟩, .bool false] := by rw [← hw3]; exact alloc_bl _ _ _
      have hB3 : Below w2.heap.size w2 w3 := by rw [← hw3]; exact alloc_below _ _
      have HB3 : Hid (Below w.heap.size w w3) := HW2.out.trans (hB3.mono HW2.out.size)
      have HL3 : Hid (∀ wq, Below w3.heap.size w3 wq → Bl 27 wq w2.heap.size [.int .i64 alg, .string ⟨kid.toArray⟩, .string ⟨([] : List UInt8).toArray⟩, .bool false]) := fun wq hq => hb3.below hq hb3.lt
      have CS := HPs.out w3 HB3.out
      have d3a : (w2.alloc (.cells (([.int .i64 alg, .string ⟨kid.toArray⟩, .string ⟨typ.toArray⟩, .bool false] : List Value).toArray) 27)).cell? ⟨w.heap.size, 3, none⟩ = some (.bool false) := (HHq.out _ (alloc_below _ _)).cell 3 (by simp)
      have HW3 : Hid (w2.alloc (.cells (([.int .i64 alg, .string ⟨kid.toArray⟩, .string ⟨([] : List UInt8).toArray⟩, .bool false] : List Value).toArray) 27) = w3) := hw3
      clear HPs hb3 hB3 hw3
      go_wp2_with (first | (refine wpList_load_mid rfl 27 (.tmp 2) rfl w.heap.size 0 rfl [.int .i64 alg, .string ⟨kid.toArray⟩, .string ⟨typ.toArray⟩, .bool false] _ q2 Tryz.underlying27 rfl hch ?_) | fail)
      rw [show w2.alloc (Obj.cells #[Value.int .i64 alg, .string ⟨kid.toArray⟩, .string ⟨#[]⟩, .bool false] 27) = w3 from HW3.out]
      refine CS.mono ?_
      clear CS q2 d3 HW3 d3a HHq
      rintro e w4 ⟨rfl, hB4⟩
      have HB4 : Hid (Below w.heap.size w w4) := HB3.out.trans (hB4.mono HB3.out.size)
      obtain ⟨w5, hw5⟩ : ∃ w5 : World, w4.alloc (.cells (([.int .i64 alg, .string ⟨kid.toArray⟩, .string ⟨([] : List UInt8).toArray⟩, .bool false] : List Value).toArray) 27) = w5 := ⟨_, rfl⟩
      have hb5 : Bl 27 w5 w4.heap.size [.int .i64 alg, .string ⟨kid.toArray⟩, .string ⟨([] : List UInt8).toArray⟩, .bool false] := by rw [← hw5]; exact alloc_bl _ _ _
      have hB5 : Below w4.heap.size w4 w5 := by rw [← hw5]; exact alloc_below _ _
      have HB5 : Hid (Below w.heap.size w w5) := HB4.out.trans (hB5.mono HB4.out.size)
      have hb7 := HL3.out w5 (hB4.trans (hB5.mono hB4.size))
      rw [← hw5] at hb7
      have y0 : (w4.alloc (Obj.cells #[Value.int .i64 alg, .string ⟨kid.toArray⟩, .string ⟨#[]⟩, .bool false] 27)).cell? ⟨w2.heap.size, 0, none⟩ = some (.int .i64 alg) := hb7.cell 0 (by simp)
      have y1 : (w4.alloc (Obj.cells #[Value.int .i64 alg, .string ⟨kid.toArray⟩, .string ⟨#[]⟩, .bool false] 27)).cell? ⟨w2.heap.size, 1, none⟩ = some (.string ⟨kid.toArray⟩) := hb7.cell 1 (by simp)
      have y2 : (w4.alloc (Obj.cells #[Value.int .i64 alg, .string ⟨kid.toArray⟩, .string ⟨#[]⟩, .bool false] 27)).cell? ⟨w2.heap.size, 2, none⟩ = some (.string ⟨#[]⟩) := hb7.cell 2 (by simp)
      have y3 : (w4.alloc (Obj.cells #[Value.int .i64 alg, .string ⟨kid.toArray⟩, .string ⟨#[]⟩, .bool false] 27)).cell? ⟨w2.heap.size, 3, none⟩ = some (.bool false) := hb7.cell 3 (by simp)
      have req : (binOp .neq 27 (.agg #[Value.int .i64 alg, .string ⟨kid.toArray⟩, .string ⟨#[]⟩, .bool false]) (.agg #[Value.int .i64 alg, .string ⟨kid.toArray⟩, .string ⟨#[]⟩, .bool false])).run Tryz.prog (w4.alloc (Obj.cells #[Value.int .i64 alg, .string ⟨kid.toArray⟩, .string ⟨#[]⟩, .bool false] 27)) = .ok (.bool false) (w4.alloc (Obj.cells #[Value.int .i64 alg, .string ⟨kid.toArray⟩, .string ⟨#[]⟩, .bool false] 27)) := run_hd_ne _ ⟨alg, kid, [], false⟩
      have hB2 : Below w.heap.size w (w4.alloc (Obj.cells #[Value.int .i64 alg, .string ⟨kid.toArray⟩, .string ⟨#[]⟩, .bool false] 27)) := by
        have := HB5.out
        rwa [← hw5] at this
      clear hb5 hb7 hB5 hB4 hw5 HL3 HB5 w5
      have CT := HPt.out (w4.alloc (Obj.cells #[Value.int .i64 alg, .string ⟨kid.toArray⟩, .string ⟨#[]⟩, .bool false] 27)) hB2
      have HBt : Hid (Below w.heap.size w (w4.alloc (Obj.cells #[Value.int .i64 alg, .string ⟨kid.toArray⟩, .string ⟨#[]⟩, .bool false] 27))) := hB2
      clear hB2
      go_wp2_with fail
      refine CT.mono ?_
      clear CT HPt
      rintro e u1 ⟨rfl, hu1⟩
      have HU1 : Hid (Below w.heap.size w u1) := HBt.out.trans (hu1.mono HBt.out.size)
      clear hu1
      obtain ⟨u2, hu2⟩ : ∃ u2 : World, u1.alloc (.cells (([.int .i64 ka, .string ⟨kk.toArray⟩, .string ⟨kt.toArray⟩, .bool kh] : List Value).toArray) 27) = u2 := ⟨_, rfl⟩
      have hb2 : Bl 27 u2 u1.heap.size [.int .i64 ka, .string ⟨kk.toArray⟩, .string ⟨kt.toArray⟩, .bool kh] := by rw [← hu2]; exact alloc_bl _ _ _
      have hB2 : Below w.heap.size w u2 := by rw [← hu2]; exact HU1.out.trans ((alloc_below _ _).mono HU1.out.size)
      by_cases hc : kc = 0
      · subst hc
        obtain ⟨hpr, hpb⟩ := HK.out rfl
        have C2 := HPk.out rfl u2 hB2
        have HPb2 : Hid (∀ wq, Below w.heap.size w wq → Calls Tryz.prog 11 #[.string ⟨pt.toArray⟩] wq fun e w' => e = .returned (.tuple #[.agg #[.int .i64 ka, .string ⟨kk.toArray⟩, .string ⟨kt.toArray⟩, .bool kh], .int .i64 0]) ∧ Below wq.heap.size wq w') := HPb.out rfl
        clear HPb HPk HK
        have q2 := hb2.range
        have HL : Hid (∀ wq, Below u2.heap.size u2 wq → Bl 27 wq u1.heap.size [.int .i64 ka, .string ⟨kk.toArray⟩, .string ⟨kt.toArray⟩, .bool kh]) := fun wq hq => hb2.below hq hb2.lt
        have HU2 : Hid (Below w.heap.size w u2) := hB2
        clear hb2 hB2
        go_wp2_with (refine wpList_load_mid rfl 27 (.tmp 10) rfl u1.heap.size 0 rfl [.int .i64 ka, .string ⟨kk.toArray⟩, .string ⟨kt.toArray⟩, .bool kh] _ q2 Tryz.underlying27 rfl hck ?_)
        refine C2.mono ?_
        clear C2 q2
        rintro e u3 ⟨rfl, hu3⟩
        have HU3 : Hid (Below w.heap.size w u3) := HU2.out.trans (hu3.mono HU2.out.size)
        have C3 := HPb2.out u3 HU3.out
        have HV3 : Hid (Below u2.heap.size u2 u3) := hu3
        clear hu3
        go_wp2_with fail
        refine C3.mono ?_
        clear C3
        rintro e u4 ⟨rfl, hu4⟩
        have HU4 : Hid (Below w.heap.size w u4) := HU3.out.trans (hu4.mono HU3.out.size)
        have HV4 : Hid (Below u2.heap.size u2 u4) := HV3.out.trans (hu4.mono HV3.out.size)
        clear hu4
        obtain ⟨u5, hu5⟩ : ∃ u5 : World, u4.alloc (.cells (([.int .i64 ka, .string ⟨kk.toArray⟩, .string ⟨kt.toArray⟩, .bool kh] : List Value).toArray) 27) = u5 := ⟨_, rfl⟩
        have hb5 : Bl 27 u5 u4.heap.size [.int .i64 ka, .string ⟨kk.toArray⟩, .string ⟨kt.toArray⟩, .bool kh] := by rw [← hu5]; exact alloc_bl _ _ _
        have HU5 : Hid (Below w.heap.size w u5) := by rw [← hu5]; exact HU4.out.trans ((alloc_below _ _).mono HU4.out.size)
        have hb6 := HL.out u5 (by rw [← hu5]; exact HV4.out.trans ((alloc_below _ _).mono HV4.out.size))
        have y0 : u5.cell? ⟨u4.heap.size, 0, none⟩ = some (.int .i64 ka) := hb5.cell 0 (by simp)
        have y1 : u5.cell? ⟨u4.heap.size, 1, none⟩ = some (.string ⟨kk.toArray⟩) := hb5.cell 1 (by simp)
        have y2 : u5.cell? ⟨u4.heap.size, 2, none⟩ = some (.string ⟨kt.toArray⟩) := hb5.cell 2 (by simp)
        have y3 : u5.cell? ⟨u4.heap.size, 3, none⟩ = some (.bool kh) := hb5.cell 3 (by simp)
        have z0 : u5.cell? ⟨u1.heap.size, 0, none⟩ = some (.int .i64 ka) := hb6.cell 0 (by simp)
        have z1 : u5.cell? ⟨u1.heap.size, 1, none⟩ = some (.string ⟨kk.toArray⟩) := hb6.cell 1 (by simp)
        have z2 : u5.cell? ⟨u1.heap.size, 2, none⟩ = some (.string ⟨kt.toArray⟩) := hb6.cell 2 (by simp)
        have z3 : u5.cell? ⟨u1.heap.size, 3, none⟩ = some (.bool kh) := hb6.cell 3 (by simp)
        have req := run_hd u5 ⟨ka, kk, kt, kh⟩
        dsimp only at req
        clear hb5 hb6 HL hpb HPb2
        go_wp2
        go_ret
        exact ⟨rfl, HU5.out⟩
      · have qc : ((kc : Int) == 0) = false := by simp; omega
        have qc' : ((kc : Int) != 0) = true := by simp; omega
        have HU2 : Hid (Below w.heap.size w u2) := hB2
        clear hb2 hB2 hc HK HPk HPb
        go_wp2
        go_ret
        exact ⟨rfl, HU2.out⟩
    · simp only [if_true] at HPs
      obtain ⟨w3, hw3⟩ : ∃ w3 : World, w2.alloc (.cells (([.int .i64 alg, .string ⟨kid.toArray⟩, .string ⟨typ.toArray⟩, .bool true] : List Value).toArray) 27) = w3 := ⟨_, rfl⟩
      have hb3 : Bl 27 w3 w2.heap.size [.int .i64 alg, .string ⟨kid.toArray⟩, .string ⟨typ.toArray⟩, .bool true] := by rw [← hw3]; exact alloc_bl _ _ _
      have hB3 : Below w2.heap.size w2 w3 := by rw [← hw3]; exact alloc_below _ _
      have HB3 : Hid (Below w.heap.size w w3) := HW2.out.trans (hB3.mono HW2.out.size)
      have HL3 : Hid (∀ wq, Below w3.heap.size w3 wq → Bl 27 wq w2.heap.size [.int .i64 alg, .string ⟨kid.toArray⟩, .string ⟨typ.toArray⟩, .bool true]) := fun wq hq => hb3.below hq hb3.lt
      have CS := HPs.out w3 HB3.out
      have d3a : (w2.alloc (.cells (([.int .i64 alg, .string ⟨kid.toArray⟩, .string ⟨typ.toArray⟩, .bool true] : List Value).toArray) 27)).cell? ⟨w.heap.size, 3, none⟩ = some (.bool true) := (HHq.out _ (alloc_below _ _)).cell 3 (by simp)
      have HW3 : Hid (w2.alloc (.cells (([.int .i64 alg, .string ⟨kid.toArray⟩, .string ⟨typ.toArray⟩, .bool true] : List Value).toArray) 27) = w3) := hw3
      clear HPs hb3 hB3 hw3
      go_wp2_with (first | (refine wpList_load_mid rfl 27 (.tmp 2) rfl w.heap.size 0 rfl [.int .i64 alg, .string ⟨kid.toArray⟩, .string ⟨typ.toArray⟩, .bool true] _ q2 Tryz.underlying27 rfl hch ?_) | fail)
      rw [show w2.alloc (Obj.cells #[Value.int .i64 alg, .string ⟨kid.toArray⟩, .string ⟨typ.toArray⟩, .bool true] 27) = w3 from HW3.out]
      refine CS.mono ?_
      clear CS q2 d3 HW3 d3a HHq
      rintro e w4 ⟨rfl, hB4⟩
      have HB4 : Hid (Below w.heap.size w w4) := HB3.out.trans (hB4.mono HB3.out.size)
      obtain ⟨w5, hw5⟩ : ∃ w5 : World, w4.alloc (.cells (([.int .i64 alg, .string ⟨kid.toArray⟩, .string ⟨typ.toArray⟩, .bool true] : List Value).toArray) 27) = w5 := ⟨_, rfl⟩
      have hb5 : Bl 27 w5 w4.heap.size [.int .i64 alg, .string ⟨kid.toArray⟩, .string ⟨typ.toArray⟩, .bool true] := by rw [← hw5]; exact alloc_bl _ _ _
      have hB5 : Below w4.heap.size w4 w5 := by rw [← hw5]; exact alloc_below _ _
      have HB5 : Hid (Below w.heap.size w w5) := HB4.out.trans (hB5.mono HB4.out.size)
      have hb7 := HL3.out w5 (hB4.trans (hB5.mono hB4.size))
      rw [← hw5] at hb7
      have y0 : (w4.alloc (Obj.cells #[Value.int .i64 alg, .string ⟨kid.toArray⟩, .string ⟨typ.toArray⟩, .bool true] 27)).cell? ⟨w2.heap.size, 0, none⟩ = some (.int .i64 alg) := hb7.cell 0 (by simp)
      have y1 : (w4.alloc (Obj.cells #[Value.int .i64 alg, .string ⟨kid.toArray⟩, .string ⟨typ.toArray⟩, .bool true] 27)).cell? ⟨w2.heap.size, 1, none⟩ = some (.string ⟨kid.toArray⟩) := hb7.cell 1 (by simp)
      have y2 : (w4.alloc (Obj.cells #[Value.int .i64 alg, .string ⟨kid.toArray⟩, .string ⟨typ.toArray⟩, .bool true] 27)).cell? ⟨w2.heap.size, 2, none⟩ = some (.string ⟨typ.toArray⟩) := hb7.cell 2 (by simp)
      have y3 : (w4.alloc (Obj.cells #[Value.int .i64 alg, .string ⟨kid.toArray⟩, .string ⟨typ.toArray⟩, .bool true] 27)).cell? ⟨w2.heap.size, 3, none⟩ = some (.bool true) := hb7.cell 3 (by simp)
      have req : (binOp .neq 27 (.agg #[Value.int .i64 alg, .string ⟨kid.toArray⟩, .string ⟨typ.toArray⟩, .bool true]) (.agg #[Value.int .i64 alg, .string ⟨kid.toArray⟩, .string ⟨typ.toArray⟩, .bool true])).run Tryz.prog (w4.alloc (Obj.cells #[Value.int .i64 alg, .string ⟨kid.toArray⟩, .string ⟨typ.toArray⟩, .bool true] 27)) = .ok (.bool false) (w4.alloc (Obj.cells #[Value.int .i64 alg, .string ⟨kid.toArray⟩, .string ⟨typ.toArray⟩, .bool true] 27)) := run_hd_ne _ ⟨alg, kid, typ, true⟩
      have hB2 : Below w.heap.size w (w4.alloc (Obj.cells #[Value.int .i64 alg, .string ⟨kid.toArray⟩, .string ⟨typ.toArray⟩, .bool true] 27)) := by
        have := HB5.out
        rwa [← hw5] at this
      clear hb5 hb7 hB5 hB4 hw5 HL3 HB5 w5
      have CT := HPt.out (w4.alloc (Obj.cells #[Value.int .i64 alg, .string ⟨kid.toArray⟩, .string ⟨typ.toArray⟩, .bool true] 27)) hB2
      have HBt : Hid (Below w.heap.size w (w4.alloc (Obj.cells #[Value.int .i64 alg, .string ⟨kid.toArray⟩, .string ⟨typ.toArray⟩, .bool true] 27))) := hB2
      clear hB2
      go_wp2_with fail
      refine CT.mono ?_
      clear CT HPt
      rintro e u1 ⟨rfl, hu1⟩
      have HU1 : Hid (Below w.heap.size w u1) := HBt.out.trans (hu1.mono HBt.out.size)
      clear hu1
      obtain ⟨u2, hu2⟩ : ∃ u2 : World, u1.alloc (.cells (([.int .i64 ka, .string ⟨kk.toArray⟩, .string ⟨kt.toArray⟩, .bool kh] : List Value).toArray) 27) = u2 := ⟨_, rfl⟩
      have hb2 : Bl 27 u2 u1.heap.size [.int .i64 ka, .string ⟨kk.toArray⟩, .string ⟨kt.toArray⟩, .bool kh] := by rw [← hu2]; exact alloc_bl _ _ _
      have hB2 : Below w.heap.size w u2 := by rw [← hu2]; exact HU1.out.trans ((alloc_below _ _).mono HU1.out.size)
      by_cases hc : kc = 0
      · subst hc
        obtain ⟨hpr, hpb⟩ := HK.out rfl
        have C2 := HPk.out rfl u2 hB2
        have HPb2 : Hid (∀ wq, Below w.heap.size w wq → Calls Tryz.prog 11 #[.string ⟨pt.toArray⟩] wq fun e w' => e = .returned (.tuple #[.agg #[.int .i64 ka, .string ⟨kk.toArray⟩, .string ⟨kt.toArray⟩, .bool kh], .int .i64 0]) ∧ Below wq.heap.size wq w') := HPb.out rfl
        clear HPb HPk HK
        have q2 := hb2.range
        have HL : Hid (∀ wq, Below u2.heap.size u2 wq → Bl 27 wq u1.heap.size [.int .i64 ka, .string ⟨kk.toArray⟩, .string ⟨kt.toArray⟩, .bool kh]) := fun wq hq => hb2.below hq hb2.lt
        have HU2 : Hid (Below w.heap.size w u2) := hB2
        clear hb2 hB2
        go_wp2_with (refine wpList_load_mid rfl 27 (.tmp 10) rfl u1.heap.size 0 rfl [.int .i64 ka, .string ⟨kk.toArray⟩, .string ⟨kt.toArray⟩, .bool kh] _ q2 Tryz.underlying27 rfl hck ?_)
        refine C2.mono ?_
        clear C2 q2
        rintro e u3 ⟨rfl, hu3⟩
        have HU3 : Hid (Below w.heap.size w u3) := HU2.out.trans (hu3.mono HU2.out.size)
        have C3 := HPb2.out u3 HU3.out
        have HV3 : Hid (Below u2.heap.size u2 u3) := hu3
        clear hu3
        go_wp2_with fail
        refine C3.mono ?_
        clear C3
        rintro e u4 ⟨rfl, hu4⟩
        have HU4 : Hid (Below w.heap.size w u4) := HU3.out.trans (hu4.mono HU3.out.size)
        have HV4 : Hid (Below u2.heap.size u2 u4) := HV3.out.trans (hu4.mono HV3.out.size)
        clear hu4
        obtain ⟨u5, hu5⟩ : ∃ u5 : World, u4.alloc (.cells (([.int .i64 ka, .string ⟨kk.toArray⟩, .string ⟨kt.toArray⟩, .bool kh] : List Value).toArray) 27) = u5 := ⟨_, rfl⟩
        have hb5 : Bl 27 u5 u4.heap.size [.int .i64 ka, .string ⟨kk.toArray⟩, .string ⟨kt.toArray⟩, .bool kh] := by rw [← hu5]; exact alloc_bl _ _ _
        have HU5 : Hid (Below w.heap.size w u5) := by rw [← hu5]; exact HU4.out.trans ((alloc_below _ _).mono HU4.out.size)
        have hb6 := HL.out u5 (by rw [← hu5]; exact HV4.out.trans ((alloc_below _ _).mono HV4.out.size))
        have y0 : u5.cell? ⟨u4.heap.size, 0, none⟩ = some (.int .i64 ka) := hb5.cell 0 (by simp)
        have y1 : u5.cell? ⟨u4.heap.size, 1, none⟩ = some (.string ⟨kk.toArray⟩) := hb5.cell 1 (by simp)
        have y2 : u5.cell? ⟨u4.heap.size, 2, none⟩ = some (.string ⟨kt.toArray⟩) := hb5.cell 2 (by simp)
        have y3 : u5.cell? ⟨u4.heap.size, 3, none⟩ = some (.bool kh) := hb5.cell 3 (by simp)
        have z0 : u5.cell? ⟨u1.heap.size, 0, none⟩ = some (.int .i64 ka) := hb6.cell 0 (by simp)
        have z1 : u5.cell? ⟨u1.heap.size, 1, none⟩ = some (.string ⟨kk.toArray⟩) := hb6.cell 1 (by simp)
        have z2 : u5.cell? ⟨u1.heap.size, 2, none⟩ = some (.string ⟨kt.toArray⟩) := hb6.cell 2 (by simp)
        have z3 : u5.cell? ⟨u1.heap.size, 3, none⟩ = some (.bool kh) := hb6.cell 3 (by simp)
        have req := run_hd u5 ⟨ka, kk, kt, kh⟩
        dsimp only at req
        clear hb5 hb6 HL hpb HPb2
        go_wp2
        go_ret
        exact ⟨rfl, HU5.out⟩
      · have qc : ((kc : Int) == 0) = false := by simp; omega
        have qc' : ((kc : Int) != 0) = true := by simp; omega
        have HU2 : Hid (Below w.heap.size w u2) := hB2
        clear hb2 hB2 hc HK HPk HPb
        go_wp2
        go_ret
        exact ⟨rfl, HU2.out⟩

end Go.Proofs.YtfpimcmhooiooaaGreatDoor
