import Derived.Test.YtjpjepfmphlneaaGreatDoorDJ
import Derived.Lib.SlBytesConst
namespace Go.Proofs.YtjpjepfmphlneaaGreatDoor
open Go.RowKit

set_option maxRecDepth 100000

/-- A key, and a signature of nothing (RFC 8032, 7.1, the first). -/
def knP : List UInt8 := [215, 90, 152, 1, 130, 177, 10, 183, 213, 75, 254, 211, 201, 100, 7, 58, 14, 225, 114, 243, 218, 166, 35, 37, 175, 2, 26, 104, 247, 7, 81, 26]
def knS : List UInt8 := [229, 86, 67, 0, 195, 96, 172, 114, 144, 134, 226, 204, 128, 110, 130, 138, 132, 135, 127, 30, 184, 229, 217, 116, 216, 115, 224, 101, 34, 73, 1, 85, 95, 184, 130, 21, 144, 163, 59, 172, 198, 30, 57, 112, 28, 249, 180, 107, 210, 91, 245, 240, 89, 91, 190, 36, 101, 81, 65, 67, 142, 122, 16, 11]
def knPh : List UInt8 := [100, 55, 53, 97, 57, 56, 48, 49, 56, 50, 98, 49, 48, 97, 98, 55, 100, 53, 52, 98, 102, 101, 100, 51, 99, 57, 54, 52, 48, 55, 51, 97, 48, 101, 101, 49, 55, 50, 102, 51, 100, 97, 97, 54, 50, 51, 50, 53, 97, 102, 48, 50, 49, 97, 54, 56, 102, 55, 48, 55, 53, 49, 49, 97]
def knSh : List UInt8 := [101, 53, 53, 54, 52, 51, 48, 48, 99, 51, 54, 48, 97, 99, 55, 50, 57, 48, 56, 54, 101, 50, 99, 99, 56, 48, 54, 101, 56, 50, 56, 97, 56, 52, 56, 55, 55, 102, 49, 101, 98, 56, 101, 53, 100, 57, 55, 52, 100, 56, 55, 51, 101, 48, 54, 53, 50, 50, 52, 57, 48, 49, 53, 53, 53, 102, 98, 56, 56, 50, 49, 53, 57, 48, 97, 51, 51, 98, 97, 99, 99, 54, 49, 101, 51, 57, 55, 48, 49, 99, 102, 57, 98, 52, 54, 98, 100, 50, 53, 98, 102, 53, 102, 48, 53, 57, 53, 98, 98, 101, 50, 52, 54, 53, 53, 49, 52, 49, 52, 51, 56, 101, 55, 97, 49, 48, 48, 98]
theorem kn_ph : unh knPh 32 = knP := by decide +kernel
theorem kn_sh : unh knSh 64 = knS := by decide +kernel
theorem kn_phex : ∀ c ∈ knPh, hexOk c := by decide +kernel
theorem kn_shex : ∀ c ∈ knSh, hexOk c := by decide +kernel
def knA : Nat × Nat := (38815646466658113194383306759739515082307681141926459231621296960732224964046, 11903303657706407974989296177215005343713679411332034699907763981919547054807)
theorem knA_on : onE eP eD knA := ⟨by decide +kernel, by decide +kernel, Int.dvd_of_emod_eq_zero (by decide +kernel)⟩
theorem knA_enc : encL knA = knP := by decide +kernel
theorem kn_S : leN (knS.drop 32) = 5004556735901913393272427758925840403246877222315506387332009764265656498271 := by decide +kernel
theorem kn_k0 : kV (knS.take 32) knP [] = 1958233733501237659471134851339390337284068724042047466985993338226439154310 := by decide +kernel
theorem kn_k1 : kV (knS.take 32) knP [120] = 7105053535885340757715205778169356927404386393052748833402476575000598598480 := by decide +kernel
def knN : R4 := ⟨(eP - knA.1) % eP, knA.2, 1, (eP - knA.1) % eP * knA.2 % eP⟩
theorem knN_is : Rq eP knN (ne eP knA) := Rq.of (by decide +kernel) (ew.non knA_on)
theorem kn_lad (S k : Nat) (a c : Nat) (hS : S < 2 ^ 253) (hk : k < 2 ^ 253) (ha : a < eP) (hc : c < eP) (h1 : (ldq eP eD qB knN (pq eP eD qB knN) 253 S k).x = (ldq eP eD qB knN (pq eP eD qB knN) 253 S k).z * a % eP) (h2 : (ldq eP eD qB knN (pq eP eD qB knN) 253 S k).y = (ldq eP eD qB knN (pq eP eD qB knN) 253 S k).z * c % eP) : se eP eD (me eP eD S eB) (me eP eD k (ne eP knA)) = (a, c) := by
  have h := ew.ldq_is qB_is knN_is (ew.plus qB_is knN_is onB (ew.non knA_on)) onB (ew.non knA_on) 253 S k hS hk
  exact ew.Rq_is h (ew.son (ew.mon onB _) (ew.mon (ew.non knA_on) _)) ha hc h1 h2
theorem kn_r0 : rV knA knP [] knS = (44370630452101398467924320556439323233869374150616132215183787387252341590058, 38448863731492799660668882834560725606410712239157980760146247592118262650597) := by
  unfold rV
  rw [kn_S, kn_k0]
  exact kn_lad _ _ _ _ (by decide +kernel) (by decide +kernel) (by decide +kernel) (by decide +kernel) (by decide +kernel) (by decide +kernel)
theorem kn_r1 : rV knA knP [120] knS = (27464299496295276520891119629597953709513272944613520694898032357315587879381, 36524695488792566173696701424734534613404811050428805610673163702545517514826) := by
  unfold rV
  rw [kn_S, kn_k1]
  exact kn_lad _ _ _ _ (by decide +kernel) (by decide +kernel) (by decide +kernel) (by decide +kernel) (by decide +kernel) (by decide +kernel)
theorem kn_e0 : encL (44370630452101398467924320556439323233869374150616132215183787387252341590058, 38448863731492799660668882834560725606410712239157980760146247592118262650597) = knS.take 32 := by decide +kernel
theorem kn_e1 : encL (27464299496295276520891119629597953709513272944613520694898032357315587879381, 36524695488792566173696701424734534613404811050428805610673163702545517514826) ≠ knS.take 32 := by decide +kernel
theorem kn_0 : verC knA knP [] knS = 0 := if_pos ⟨rfl, by rw [kn_S]; decide +kernel, by rw [kn_r0]; exact kn_e0⟩
theorem kn_1 : verC knA knP [120] knS = 91 := if_neg fun h => kn_e1 (by rw [← kn_r1]; exact h.2.2)
/-- The double of the base point. -/
def eB2 : Nat × Nat := (24727413235106541002554574571675588834622768167397638456726423682521233608206, 15549675580280190176352668710449542251549572066445060580507079593062643049417)
theorem eB2_is : se eP eD eB eB = eB2 := ew.Rq_is (ew.plus qB_is qB_is onB onB) (ew.son onB onB) (by decide +kernel) (by decide +kernel) (by decide +kernel) (by decide +kernel)
theorem eB2_me : me eP eD 2 eB = eB2 := by
  rw [← eB2_is]
  show se eP eD (me eP eD 1 eB) eB = _
  rw [ew.mone onB]
theorem eB2_on : onE eP eD eB2 := eB2_is ▸ ew.son onB onB
theorem eB2_ne : eB2 ≠ eB := by decide +kernel
end Go.Proofs.YtjpjepfmphlneaaGreatDoor

namespace Go.Proofs.YtjpjepfmphlneaaGreatDoor
open Go.RowKit

set_option maxRecDepth 100000

theorem rd_const (w : World) (l : List UInt8) (f : Nat × Nat) : Rd (w.alloc (.cells (l.map B).toArray 5 f)) (some ⟨w.heap.size, 0, none⟩) l := by
  refine .inr ⟨w.heap.size, 0, rfl, by rw [World.size_alloc]; omega, fun j hj => ?_⟩
  have h : (w.alloc (.cells (l.map B).toArray 5 f)).heap[w.heap.size]? = some (.cells (l.map B).toArray 5 f) := by unfold World.alloc; simp
  simp only [World.cell?, h]
  simp [List.getD_eq_getElem?_getD, List.getElem?_eq_getElem hj]
set_option maxHeartbeats 20000000 in
theorem known_v (w : World) (T : Te w) (TS : Sha.Tb w) : Calls Tryz.prog 39 #[] w fun e w' => e = .returned (.bool true) ∧ Below w.heap.size w w' := by
  have HT : Hid (Te w ∧ Sha.Tb w) := ⟨T, TS⟩
  have C1 := unhex_v knPh 32 w (by decide) kn_phex (by decide)
  rw [kn_ph] at C1
  clear T TS
  have kc := fun (w : World) (C : Array Value) (n c : Nat) => Lib.run_convert_bytes_const (P := Tryz.prog) w 22 5 C n c Tryz.underlying22 Tryz.underlying5
  go_enter Tryz.func39, Tryz.ntmps39
  go_wp2_with fail
  refine C1.mono ?_
  clear C1
  rintro e w1 ⟨v, rfl, hO, hB⟩
  obtain ⟨pa, pc, rfl, hpl, hpc, hpm, _, hpr, _⟩ := own_rdE hO
  have HP : Hid (Rd w1 pa knP ∧ 32 ≤ pc ∧ pc ≤ 9223372036854775807 ∧ Below w.heap.size w w1) := ⟨hpr, hpc, hpm, hB⟩
  have C2 := unhex_v knSh 64 w1 (by decide) kn_shex (by decide)
  rw [kn_sh] at C2
  clear hO hB hpl hpc hpm hpr
  rw [show knP.length = 32 from rfl]
  go_wp2_with fail
  refine C2.mono ?_
  clear C2
  rintro e w2 ⟨v, rfl, hO, hB⟩
  obtain ⟨sa, sc, rfl, hsl, hsc, hsm, _, hsr, _⟩ := own_rdE hO
  have HB2 : Hid (Below w.heap.size w w2) := HP.out.2.2.2.trans (hB.mono HP.out.2.2.2.size)
  have HS : Hid (Rd w2 pa knP ∧ Rd w2 sa knS ∧ 64 ≤ sc ∧ sc ≤ 9223372036854775807) := ⟨HP.out.1.below hB (Nat.le_refl _), hsr, hsc, hsm⟩
  clear hO hB hsl hsc hsm hsr
  rw [show knS.length = 64 from rfl]
  have C3 := verify_v pa none sa pc 0 sc knP [] knS w2 (HT.out.1.below HB2.out (Nat.le_refl _)) (HT.out.2.below HB2.out) HS.out.1 (.inl rfl) HS.out.2.1 ⟨HP.out.2.1, HP.out.2.2.1⟩ ⟨by decide, by decide⟩ ⟨HS.out.2.2.1, HS.out.2.2.2⟩ (by decide) knA knA_on knA_enc
  rw [kn_0] at C3
  replace C3 : Calls Tryz.prog 12 #[.slice pa 32 pc, .slice none 0 0, .slice sa 64 sc] w2 fun e w' => e = .returned (.int .i64 0) ∧ Below w2.heap.size w2 w' := C3
  go_wp2_with fail
  refine C3.mono ?_
  clear C3
  rintro e w3 ⟨rfl, hB⟩
  have HB3 : Hid (Below w.heap.size w w3) := HB2.out.trans (hB.mono HB2.out.size)
  have HS3 : Hid (Rd w3 pa knP ∧ Rd w3 sa knS) := ⟨HS.out.1.below hB (Nat.le_refl _), HS.out.2.1.below hB (Nat.le_refl _)⟩
  clear hB
  have hbx := alloc_below w3 (.cells #[.int .u8 120] 5 (1, 2))
  have HB4 : Hid (Below w.heap.size w (w3.alloc (.cells #[.int .u8 120] 5 (1, 2)))) := HB3.out.trans (hbx.mono HB3.out.size)
  have C4 := verify_v pa (some ⟨w3.heap.size, 0, none⟩) sa pc 1 sc knP [120] knS (w3.alloc (.cells #[.int .u8 120] 5 (1, 2))) (HT.out.1.below HB4.out (Nat.le_refl _)) (HT.out.2.below HB4.out) (HS3.out.1.below hbx (Nat.le_refl _)) (rd_const w3 [120] (1, 2)) (HS3.out.2.below hbx (Nat.le_refl _)) ⟨HP.out.2.1, HP.out.2.2.1⟩ ⟨by decide, by decide⟩ ⟨HS.out.2.2.1, HS.out.2.2.2⟩ (by decide) knA knA_on knA_enc
  rw [kn_1] at C4
  replace C4 : Calls Tryz.prog 12 #[.slice pa 32 pc, .slice (some ⟨w3.heap.size, 0, none⟩) 1 1, .slice sa 64 sc] (w3.alloc (.cells #[.int .u8 120] 5 (1, 2))) fun e w' => e = .returned (.int .i64 91) ∧ Below (w3.alloc (.cells #[.int .u8 120] 5 (1, 2))).heap.size (w3.alloc (.cells #[.int .u8 120] 5 (1, 2))) w' := C4
  clear hbx
  go_wp2_with fail
  refine C4.mono ?_
  clear C4
  rintro e w5 ⟨rfl, hB⟩
  have HB5 : Hid (Below w.heap.size w w5) := HB4.out.trans (hB.mono HB4.out.size)
  clear hB kc
  go_wp2
  go_ret
  exact ⟨rfl, HB5.out⟩
/-- A point at hand: its two numbers, proper. -/
def Pn (w : World) (x y : Value) (P : Nat × Nat) : Prop := Nm w x (dg Bs P.1) ∧ Nm w y (dg Bs P.2) ∧ P.1 < pw 256 ∧ P.2 < pw 256
theorem Pe.pn {w : World} {b : Nat} {v : Value} {P : Nat × Nat} (h : Pe w b v P) : ∃ x y, v = .agg #[x, y, .bool false] ∧ Pn w x y P := by
  obtain ⟨x, y, e, h1, h2, _⟩ := h
  exact ⟨x, y, e, h1.nm, h2.nm, h1.2.2, h2.2.2⟩
theorem len256 {V : Nat} (h : V < pw 256) : (dg Bs V).length ≤ 3000000 := Nat.le_trans (dgl_pw h (by decide)) (by decide)
theorem Pn.below {w w' : World} {x y : Value} {P : Nat × Nat} {n : Nat} (h : Pn w x y P) (hb : Below n w w') (hn : w.heap.size ≤ n) : Pn w' x y P := ⟨h.1.below hb hn, h.2.1.below hb hn, h.2.2⟩
theorem Pn.nx {w : World} {x y : Value} {P : Nat × Nat} (h : Pn w x y P) : Nu w x P.1 := h.1.nud (len256 h.2.2.1)
theorem Pn.ny {w : World} {x y : Value} {P : Nat × Nat} (h : Pn w x y P) : Nu w y P.2 := h.2.1.nud (len256 h.2.2.2)
theorem Pn.sl {w : World} {x y : Value} {P : Nat × Nat} (h : Pn w x y P) : Sl3 x ∧ Sl3 y := ⟨h.nx.shape, h.ny.shape⟩
/-- The law's on, of a point of the curve. -/
theorem lon_p {w : World} {x y : Value} {P : Nat × Nat} (h : Pn w x y P) (hP : onE eP eD P) : Calls Tryz.prog 16 #[.agg #[x, y, .bool false]] w fun e w' => e = .returned (.bool true) ∧ Below w.heap.size w w' := by
  have C := lon_v x y P.1 P.2 false w h.1 h.2.1 (len256 h.2.2.1) (len256 h.2.2.2)
  rw [(onV_iff _ _ _).2 ⟨rfl, hP⟩] at C
  exact C
/-- The law's one, of two points. -/
theorem lone_p {w : World} {x y u v : Value} {P Q : Nat × Nat} (h : Pn w x y P) (g : Pn w u v Q) : Calls Tryz.prog 15 #[.agg #[x, y, .bool false], .agg #[u, v, .bool false]] w fun e w' => e = .returned (.bool (decide (P = Q))) ∧ Below w.heap.size w w' := by
  have C := lone_v x y u v (dg Bs P.1) (dg Bs P.2) (dg Bs Q.1) (dg Bs Q.2) false false w h.1 h.2.1 g.1 g.2.1 (Nat.le_trans (len256 h.2.2.1) (by decide)) (Nat.le_trans (len256 h.2.2.2) (by decide))
  have e : decide (false = false ∧ dg Bs P.1 = dg Bs Q.1 ∧ dg Bs P.2 = dg Bs Q.2) = decide (P = Q) := by
    by_cases hq : P = Q
    · subst hq; simp
    · rw [decide_eq_false hq, decide_eq_false fun hh => hq (Prod.ext (dgB_inj hh.2.1) (dgB_inj hh.2.2))]
  rw [e] at C
  exact C
theorem add_p {w : World} {x y u v : Value} {P Q : Nat × Nat} (T : Te w) (h : Pn w x y P) (g : Pn w u v Q) (oP : onE eP eD P) (oQ : onE eP eD Q) : Calls Tryz.prog 17 #[.agg #[x, y, .bool false], .agg #[u, v, .bool false]] w fun e w' => ∃ t, e = .returned (.tuple #[t, .int .i64 0]) ∧ Pe w' w.heap.size t (se eP eD P Q) ∧ Below w.heap.size w w' :=
  add_ok x y u v P.1 P.2 Q.1 Q.2 w T h.nx h.ny g.nx g.ny oP oQ
theorem mul_p {w : World} {k x y : Value} {K : Nat} {P : Nat × Nat} (T : Te w) (hk : Nu w k K) (h : Pn w x y P) (oP : onE eP eD P) (hK : bl K ≤ 1024) : Calls Tryz.prog 20 #[k, .agg #[x, y, .bool false]] w fun e w' => ∃ t, e = .returned (.tuple #[t, .int .i64 0]) ∧ Pe w' w.heap.size t (me eP eD K P) ∧ Below w.heap.size w w' :=
  mul_ok k x y K P.1 P.2 w T hk h.nx h.ny oP hK
end Go.Proofs.YtjpjepfmphlneaaGreatDoor

namespace Go.Proofs.YtjpjepfmphlneaaGreatDoor
open Go.RowKit

set_option maxRecDepth 100000

set_option maxHeartbeats 20000000 in
theorem awake13_v (w : World) (T : Te w) (TS : Sha.Tb w) : Calls Tryz.prog 11 #[] w fun e w' => e = .returned (.bool true) ∧ Below w.heap.size w w' := by
  have HT : Hid (Te w ∧ Sha.Tb w) := ⟨T, TS⟩
  clear T TS
  have HB0 : Hid (Below w.heap.size w w) := Below.refl _ _
  go_enter Tryz.func11, Tryz.ntmps11
  go_wp2_with fail
  refine (base_v _ (HT.out.1.below HB0.out (Nat.le_refl _))).mono ?_
  rintro e w1 ⟨v, rfl, hm, hB⟩
  have HB1 : Hid (Below w.heap.size w w1) := HB0.out.trans (hB.mono HB0.out.size)
  obtain ⟨gx, gy, rfl, hpn⟩ := hm.pn
  obtain ⟨⟨gx0, gx1, gx2, rfl⟩, ⟨gy0, gy1, gy2, rfl⟩⟩ := hpn.sl
  have Hpg0 : Hid (Pn w1 (.slice gx0 gx1 gx2) (.slice gy0 gy1 gy2) eB) := hpn
  clear hpn
  clear hB hm
  have hba := alloc_below w1 (.cells #[.slice gx0 gx1 gx2, .slice gy0 gy1 gy2, .bool false] 31)
  have HB2 : Hid (Below w.heap.size w (w1.alloc (.cells #[.slice gx0 gx1 gx2, .slice gy0 gy1 gy2, .bool false] 31))) := HB1.out.trans (hba.mono HB1.out.size)
  have Hpg1 : Hid (Pn (w1.alloc (.cells #[.slice gx0 gx1 gx2, .slice gy0 gy1 gy2, .bool false] 31)) (.slice gx0 gx1 gx2) (.slice gy0 gy1 gy2) eB) := Hpg0.out.below hba (Nat.le_refl _)
  clear hba
  have Hbg0 : Hid (Bl 31 (w1.alloc (.cells #[.slice gx0 gx1 gx2, .slice gy0 gy1 gy2, .bool false] 31)) w1.heap.size [.slice gx0 gx1 gx2, .slice gy0 gy1 gy2, .bool false]) := alloc_bl w1 [.slice gx0 gx1 gx2, .slice gy0 gy1 gy2, .bool false] 31
  have kg_0 : (w1.alloc (.cells #[.slice gx0 gx1 gx2, .slice gy0 gy1 gy2, .bool false] 31)).cell? ⟨w1.heap.size, 0, none⟩ = some (.slice gx0 gx1 gx2) := Hbg0.out.cell 0 (by simp)
  have kg_1 : (w1.alloc (.cells #[.slice gx0 gx1 gx2, .slice gy0 gy1 gy2, .bool false] 31)).cell? ⟨w1.heap.size, 1, none⟩ = some (.slice gy0 gy1 gy2) := Hbg0.out.cell 1 (by simp)
  have kg_2 : (w1.alloc (.cells #[.slice gx0 gx1 gx2, .slice gy0 gy1 gy2, .bool false] 31)).cell? ⟨w1.heap.size, 2, none⟩ = some (.bool false) := Hbg0.out.cell 2 (by simp)
  go_wp2_with fail
  clear kg_0 kg_1 kg_2
  generalize (w1.alloc (.cells #[.slice gx0 gx1 gx2, .slice gy0 gy1 gy2, .bool false] 31)) = wv2 at *
  refine (add_p (HT.out.1.below HB2.out (Nat.le_refl _)) Hpg1.out Hpg1.out onB onB).mono ?_
  rintro e w3 ⟨v, rfl, hm, hB⟩
  have HB3 : Hid (Below w.heap.size w w3) := HB2.out.trans (hB.mono HB2.out.size)
  have Hpg2 : Hid (Pn w3 (.slice gx0 gx1 gx2) (.slice gy0 gy1 gy2) eB) := Hpg1.out.below hB (Nat.le_refl _)
  have Hbg1 : Hid (Bl 31 w3 w1.heap.size [.slice gx0 gx1 gx2, .slice gy0 gy1 gy2, .bool false]) := Hbg0.out.below hB Hbg0.out.lt
  rw [eB2_is] at hm
  obtain ⟨tx, ty, rfl, hpn⟩ := hm.pn
  obtain ⟨⟨tx0, tx1, tx2, rfl⟩, ⟨ty0, ty1, ty2, rfl⟩⟩ := hpn.sl
  have Hpt0 : Hid (Pn w3 (.slice tx0 tx1 tx2) (.slice ty0 ty1 ty2) eB2) := hpn
  clear hpn
  clear hB hm
  have hba := alloc_below w3 (.cells #[.slice tx0 tx1 tx2, .slice ty0 ty1 ty2, .bool false] 31)
  have HB4 : Hid (Below w.heap.size w (w3.alloc (.cells #[.slice tx0 tx1 tx2, .slice ty0 ty1 ty2, .bool false] 31))) := HB3.out.trans (hba.mono HB3.out.size)
  have Hpg3 : Hid (Pn (w3.alloc (.cells #[.slice tx0 tx1 tx2, .slice ty0 ty1 ty2, .bool false] 31)) (.slice gx0 gx1 gx2) (.slice gy0 gy1 gy2) eB) := Hpg2.out.below hba (Nat.le_refl _)
  have Hbg2 : Hid (Bl 31 (w3.alloc (.cells #[.slice tx0 tx1 tx2, .slice ty0 ty1 ty2, .bool false] 31)) w1.heap.size [.slice gx0 gx1 gx2, .slice gy0 gy1 gy2, .bool false]) := Hbg1.out.below hba Hbg1.out.lt
  have Hpt1 : Hid (Pn (w3.alloc (.cells #[.slice tx0 tx1 tx2, .slice ty0 ty1 ty2, .bool false] 31)) (.slice tx0 tx1 tx2) (.slice ty0 ty1 ty2) eB2) := Hpt0.out.below hba (Nat.le_refl _)
  clear hba
  have Hbt0 : Hid (Bl 31 (w3.alloc (.cells #[.slice tx0 tx1 tx2, .slice ty0 ty1 ty2, .bool false] 31)) w3.heap.size [.slice tx0 tx1 tx2, .slice ty0 ty1 ty2, .bool false]) := alloc_bl w3 [.slice tx0 tx1 tx2, .slice ty0 ty1 ty2, .bool false] 31
  have hlt := lit_v (w3.alloc (.cells #[.slice tx0 tx1 tx2, .slice ty0 ty1 ty2, .bool false] 31)) 2 2 rfl (by decide) (by decide)
  have hsz : (w3.alloc (.cells #[.slice tx0 tx1 tx2, .slice ty0 ty1 ty2, .bool false] 31)).heap.size = w3.heap.size + 1 := World.size_alloc _ _
  have hnl : Nu ((w3.alloc (.cells #[.slice tx0 tx1 tx2, .slice ty0 ty1 ty2, .bool false] 31)).alloc (.cells #[.int .u32 2] 43)) (.slice (some ⟨w3.heap.size + 1, 0, none⟩) 1 1) 2 := hsz ▸ hlt.nb.1
  have hbl := hlt.bel
  have HB5 : Hid (Below w.heap.size w ((w3.alloc (.cells #[.slice tx0 tx1 tx2, .slice ty0 ty1 ty2, .bool false] 31)).alloc (.cells #[.int .u32 2] 43))) := HB4.out.trans (hbl.mono HB4.out.size)
  have Hpg4 : Hid (Pn ((w3.alloc (.cells #[.slice tx0 tx1 tx2, .slice ty0 ty1 ty2, .bool false] 31)).alloc (.cells #[.int .u32 2] 43)) (.slice gx0 gx1 gx2) (.slice gy0 gy1 gy2) eB) := Hpg3.out.below hbl (Nat.le_refl _)
  have Hbg3 : Hid (Bl 31 ((w3.alloc (.cells #[.slice tx0 tx1 tx2, .slice ty0 ty1 ty2, .bool false] 31)).alloc (.cells #[.int .u32 2] 43)) w1.heap.size [.slice gx0 gx1 gx2, .slice gy0 gy1 gy2, .bool false]) := Hbg2.out.below hbl Hbg2.out.lt
  have Hpt2 : Hid (Pn ((w3.alloc (.cells #[.slice tx0 tx1 tx2, .slice ty0 ty1 ty2, .bool false] 31)).alloc (.cells #[.int .u32 2] 43)) (.slice tx0 tx1 tx2) (.slice ty0 ty1 ty2) eB2) := Hpt1.out.below hbl (Nat.le_refl _)
  have Hbt1 : Hid (Bl 31 ((w3.alloc (.cells #[.slice tx0 tx1 tx2, .slice ty0 ty1 ty2, .bool false] 31)).alloc (.cells #[.int .u32 2] 43)) w3.heap.size [.slice tx0 tx1 tx2, .slice ty0 ty1 ty2, .bool false]) := Hbt0.out.below hbl Hbt0.out.lt
  have Hn0 : Hid (Nu ((w3.alloc (.cells #[.slice tx0 tx1 tx2, .slice ty0 ty1 ty2, .bool false] 31)).alloc (.cells #[.int .u32 2] 43)) (.slice (some ⟨w3.heap.size + 1, 0, none⟩) 1 1) 2) := hnl
  clear hlt hnl hbl hsz
  have kg_0 : ((w3.alloc (.cells #[.slice tx0 tx1 tx2, .slice ty0 ty1 ty2, .bool false] 31)).alloc (.cells #[.int .u32 2] 43)).cell? ⟨w1.heap.size, 0, none⟩ = some (.slice gx0 gx1 gx2) := Hbg3.out.cell 0 (by simp)
  have kg_1 : ((w3.alloc (.cells #[.slice tx0 tx1 tx2, .slice ty0 ty1 ty2, .bool false] 31)).alloc (.cells #[.int .u32 2] 43)).cell? ⟨w1.heap.size, 1, none⟩ = some (.slice gy0 gy1 gy2) := Hbg3.out.cell 1 (by simp)
  have kg_2 : ((w3.alloc (.cells #[.slice tx0 tx1 tx2, .slice ty0 ty1 ty2, .bool false] 31)).alloc (.cells #[.int .u32 2] 43)).cell? ⟨w1.heap.size, 2, none⟩ = some (.bool false) := Hbg3.out.cell 2 (by simp)
  go_wp2_with fail
  clear kg_0 kg_1 kg_2
  generalize ((w3.alloc (.cells #[.slice tx0 tx1 tx2, .slice ty0 ty1 ty2, .bool false] 31)).alloc (.cells #[.int .u32 2] 43)) = wv4 at *
  refine (mul_p (HT.out.1.below HB5.out (Nat.le_refl _)) Hn0.out Hpg4.out onB (by decide)).mono ?_
  rintro e w5 ⟨v, rfl, hm, hB⟩
  have HB6 : Hid (Below w.heap.size w w5) := HB5.out.trans (hB.mono HB5.out.size)
  have Hpg5 : Hid (Pn w5 (.slice gx0 gx1 gx2) (.slice gy0 gy1 gy2) eB) := Hpg4.out.below hB (Nat.le_refl _)
  have Hbg4 : Hid (Bl 31 w5 w1.heap.size [.slice gx0 gx1 gx2, .slice gy0 gy1 gy2, .bool false]) := Hbg3.out.below hB Hbg3.out.lt
  have Hpt3 : Hid (Pn w5 (.slice tx0 tx1 tx2) (.slice ty0 ty1 ty2) eB2) := Hpt2.out.below hB (Nat.le_refl _)
  have Hbt2 : Hid (Bl 31 w5 w3.heap.size [.slice tx0 tx1 tx2, .slice ty0 ty1 ty2, .bool false]) := Hbt1.out.below hB Hbt1.out.lt
  have Hn1 : Hid (Nu w5 (.slice (some ⟨w3.heap.size + 1, 0, none⟩) 1 1) 2) := Hn0.out.below hB (Nat.le_refl _)
  rw [eB2_me] at hm
  obtain ⟨ax, ay, rfl, hpn⟩ := hm.pn
  obtain ⟨⟨ax0, ax1, ax2, rfl⟩, ⟨ay0, ay1, ay2, rfl⟩⟩ := hpn.sl
  have Hpa0 : Hid (Pn w5 (.slice ax0 ax1 ax2) (.slice ay0 ay1 ay2) eB2) := hpn
  clear hpn
  clear hB hm
  have hba := alloc_below w5 (.cells #[.slice ax0 ax1 ax2, .slice ay0 ay1 ay2, .bool false] 31)
  have HB7 : Hid (Below w.heap.size w (w5.alloc (.cells #[.slice ax0 ax1 ax2, .slice ay0 ay1 ay2, .bool false] 31))) := HB6.out.trans (hba.mono HB6.out.size)
  have Hpg6 : Hid (Pn (w5.alloc (.cells #[.slice ax0 ax1 ax2, .slice ay0 ay1 ay2, .bool false] 31)) (.slice gx0 gx1 gx2) (.slice gy0 gy1 gy2) eB) := Hpg5.out.below hba (Nat.le_refl _)
  have Hbg5 : Hid (Bl 31 (w5.alloc (.cells #[.slice ax0 ax1 ax2, .slice ay0 ay1 ay2, .bool false] 31)) w1.heap.size [.slice gx0 gx1 gx2, .slice gy0 gy1 gy2, .bool false]) := Hbg4.out.below hba Hbg4.out.lt
  have Hpt4 : Hid (Pn (w5.alloc (.cells #[.slice ax0 ax1 ax2, .slice ay0 ay1 ay2, .bool false] 31)) (.slice tx0 tx1 tx2) (.slice ty0 ty1 ty2) eB2) := Hpt3.out.below hba (Nat.le_refl _)
  have Hbt3 : Hid (Bl 31 (w5.alloc (.cells #[.slice ax0 ax1 ax2, .slice ay0 ay1 ay2, .bool false] 31)) w3.heap.size [.slice tx0 tx1 tx2, .slice ty0 ty1 ty2, .bool false]) := Hbt2.out.below hba Hbt2.out.lt
  have Hn2 : Hid (Nu (w5.alloc (.cells #[.slice ax0 ax1 ax2, .slice ay0 ay1 ay2, .bool false] 31)) (.slice (some ⟨w3.heap.size + 1, 0, none⟩) 1 1) 2) := Hn1.out.below hba (Nat.le_refl _)
  have Hpa1 : Hid (Pn (w5.alloc (.cells #[.slice ax0 ax1 ax2, .slice ay0 ay1 ay2, .bool false] 31)) (.slice ax0 ax1 ax2) (.slice ay0 ay1 ay2) eB2) := Hpa0.out.below hba (Nat.le_refl _)
  clear hba
  have Hba0 : Hid (Bl 31 (w5.alloc (.cells #[.slice ax0 ax1 ax2, .slice ay0 ay1 ay2, .bool false] 31)) w5.heap.size [.slice ax0 ax1 ax2, .slice ay0 ay1 ay2, .bool false]) := alloc_bl w5 [.slice ax0 ax1 ax2, .slice ay0 ay1 ay2, .bool false] 31
  have kg_0 : (w5.alloc (.cells #[.slice ax0 ax1 ax2, .slice ay0 ay1 ay2, .bool false] 31)).cell? ⟨w1.heap.size, 0, none⟩ = some (.slice gx0 gx1 gx2) := Hbg5.out.cell 0 (by simp)
  have kg_1 : (w5.alloc (.cells #[.slice ax0 ax1 ax2, .slice ay0 ay1 ay2, .bool false] 31)).cell? ⟨w1.heap.size, 1, none⟩ = some (.slice gy0 gy1 gy2) := Hbg5.out.cell 1 (by simp)
  have kg_2 : (w5.alloc (.cells #[.slice ax0 ax1 ax2, .slice ay0 ay1 ay2, .bool false] 31)).cell? ⟨w1.heap.size, 2, none⟩ = some (.bool false) := Hbg5.out.cell 2 (by simp)
  go_wp2_with fail
  clear kg_0 kg_1 kg_2
  generalize (w5.alloc (.cells #[.slice ax0 ax1 ax2, .slice ay0 ay1 ay2, .bool false] 31)) = wv6 at *
  refine (lon_p Hpg6.out onB).mono ?_
  rintro e w7 ⟨rfl, hB⟩
  have HB8 : Hid (Below w.heap.size w w7) := HB7.out.trans (hB.mono HB7.out.size)
  have Hpg7 : Hid (Pn w7 (.slice gx0 gx1 gx2) (.slice gy0 gy1 gy2) eB) := Hpg6.out.below hB (Nat.le_refl _)
  have Hbg6 : Hid (Bl 31 w7 w1.heap.size [.slice gx0 gx1 gx2, .slice gy0 gy1 gy2, .bool false]) := Hbg5.out.below hB Hbg5.out.lt
  have Hpt5 : Hid (Pn w7 (.slice tx0 tx1 tx2) (.slice ty0 ty1 ty2) eB2) := Hpt4.out.below hB (Nat.le_refl _)
  have Hbt4 : Hid (Bl 31 w7 w3.heap.size [.slice tx0 tx1 tx2, .slice ty0 ty1 ty2, .bool false]) := Hbt3.out.below hB Hbt3.out.lt
  have Hn3 : Hid (Nu w7 (.slice (some ⟨w3.heap.size + 1, 0, none⟩) 1 1) 2) := Hn2.out.below hB (Nat.le_refl _)
  have Hpa2 : Hid (Pn w7 (.slice ax0 ax1 ax2) (.slice ay0 ay1 ay2) eB2) := Hpa1.out.below hB (Nat.le_refl _)
  have Hba1 : Hid (Bl 31 w7 w5.heap.size [.slice ax0 ax1 ax2, .slice ay0 ay1 ay2, .bool false]) := Hba0.out.below hB Hba0.out.lt
  clear hB
  have kt_0 : w7.cell? ⟨w3.heap.size, 0, none⟩ = some (.slice tx0 tx1 tx2) := Hbt4.out.cell 0 (by simp)
  have kt_1 : w7.cell? ⟨w3.heap.size, 1, none⟩ = some (.slice ty0 ty1 ty2) := Hbt4.out.cell 1 (by simp)
  have kt_2 : w7.cell? ⟨w3.heap.size, 2, none⟩ = some (.bool false) := Hbt4.out.cell 2 (by simp)
  go_wp2_with fail
  clear kt_0 kt_1 kt_2
  refine (lon_p Hpt5.out eB2_on).mono ?_
  rintro e w8 ⟨rfl, hB⟩
  have HB9 : Hid (Below w.heap.size w w8) := HB8.out.trans (hB.mono HB8.out.size)
  have Hpg8 : Hid (Pn w8 (.slice gx0 gx1 gx2) (.slice gy0 gy1 gy2) eB) := Hpg7.out.below hB (Nat.le_refl _)
  have Hbg7 : Hid (Bl 31 w8 w1.heap.size [.slice gx0 gx1 gx2, .slice gy0 gy1 gy2, .bool false]) := Hbg6.out.below hB Hbg6.out.lt
  have Hpt6 : Hid (Pn w8 (.slice tx0 tx1 tx2) (.slice ty0 ty1 ty2) eB2) := Hpt5.out.below hB (Nat.le_refl _)
  have Hbt5 : Hid (Bl 31 w8 w3.heap.size [.slice tx0 tx1 tx2, .slice ty0 ty1 ty2, .bool false]) := Hbt4.out.below hB Hbt4.out.lt
  have Hn4 : Hid (Nu w8 (.slice (some ⟨w3.heap.size + 1, 0, none⟩) 1 1) 2) := Hn3.out.below hB (Nat.le_refl _)
  have Hpa3 : Hid (Pn w8 (.slice ax0 ax1 ax2) (.slice ay0 ay1 ay2) eB2) := Hpa2.out.below hB (Nat.le_refl _)
  have Hba2 : Hid (Bl 31 w8 w5.heap.size [.slice ax0 ax1 ax2, .slice ay0 ay1 ay2, .bool false]) := Hba1.out.below hB Hba1.out.lt
  clear hB
  have ka_0 : w8.cell? ⟨w5.heap.size, 0, none⟩ = some (.slice ax0 ax1 ax2) := Hba2.out.cell 0 (by simp)
  have ka_1 : w8.cell? ⟨w5.heap.size, 1, none⟩ = some (.slice ay0 ay1 ay2) := Hba2.out.cell 1 (by simp)
  have ka_2 : w8.cell? ⟨w5.heap.size, 2, none⟩ = some (.bool false) := Hba2.out.cell 2 (by simp)
  have kt_0 : w8.cell? ⟨w3.heap.size, 0, none⟩ = some (.slice tx0 tx1 tx2) := Hbt5.out.cell 0 (by simp)
  have kt_1 : w8.cell? ⟨w3.heap.size, 1, none⟩ = some (.slice ty0 ty1 ty2) := Hbt5.out.cell 1 (by simp)
  have kt_2 : w8.cell? ⟨w3.heap.size, 2, none⟩ = some (.bool false) := Hbt5.out.cell 2 (by simp)
  go_wp2_with fail
  clear ka_0 ka_1 ka_2 kt_0 kt_1 kt_2
  refine (lone_p Hpt6.out Hpa3.out).mono ?_
  rintro e w9 ⟨rfl, hB⟩
  have HB10 : Hid (Below w.heap.size w w9) := HB9.out.trans (hB.mono HB9.out.size)
  have Hpg9 : Hid (Pn w9 (.slice gx0 gx1 gx2) (.slice gy0 gy1 gy2) eB) := Hpg8.out.below hB (Nat.le_refl _)
  have Hbg8 : Hid (Bl 31 w9 w1.heap.size [.slice gx0 gx1 gx2, .slice gy0 gy1 gy2, .bool false]) := Hbg7.out.below hB Hbg7.out.lt
  have Hpt7 : Hid (Pn w9 (.slice tx0 tx1 tx2) (.slice ty0 ty1 ty2) eB2) := Hpt6.out.below hB (Nat.le_refl _)
  have Hbt6 : Hid (Bl 31 w9 w3.heap.size [.slice tx0 tx1 tx2, .slice ty0 ty1 ty2, .bool false]) := Hbt5.out.below hB Hbt5.out.lt
  have Hn5 : Hid (Nu w9 (.slice (some ⟨w3.heap.size + 1, 0, none⟩) 1 1) 2) := Hn4.out.below hB (Nat.le_refl _)
  have Hpa4 : Hid (Pn w9 (.slice ax0 ax1 ax2) (.slice ay0 ay1 ay2) eB2) := Hpa3.out.below hB (Nat.le_refl _)
  have Hba3 : Hid (Bl 31 w9 w5.heap.size [.slice ax0 ax1 ax2, .slice ay0 ay1 ay2, .bool false]) := Hba2.out.below hB Hba2.out.lt
  clear hB
  rw [decide_eq_true rfl]
  have kg_0 : w9.cell? ⟨w1.heap.size, 0, none⟩ = some (.slice gx0 gx1 gx2) := Hbg8.out.cell 0 (by simp)
  have kg_1 : w9.cell? ⟨w1.heap.size, 1, none⟩ = some (.slice gy0 gy1 gy2) := Hbg8.out.cell 1 (by simp)
  have kg_2 : w9.cell? ⟨w1.heap.size, 2, none⟩ = some (.bool false) := Hbg8.out.cell 2 (by simp)
  have kt_0 : w9.cell? ⟨w3.heap.size, 0, none⟩ = some (.slice tx0 tx1 tx2) := Hbt6.out.cell 0 (by simp)
  have kt_1 : w9.cell? ⟨w3.heap.size, 1, none⟩ = some (.slice ty0 ty1 ty2) := Hbt6.out.cell 1 (by simp)
  have kt_2 : w9.cell? ⟨w3.heap.size, 2, none⟩ = some (.bool false) := Hbt6.out.cell 2 (by simp)
  go_wp2_with fail
  clear kg_0 kg_1 kg_2 kt_0 kt_1 kt_2
  refine (lone_p Hpt7.out Hpg9.out).mono ?_
  rintro e w10 ⟨rfl, hB⟩
  have HB11 : Hid (Below w.heap.size w w10) := HB10.out.trans (hB.mono HB10.out.size)
  have Hpg10 : Hid (Pn w10 (.slice gx0 gx1 gx2) (.slice gy0 gy1 gy2) eB) := Hpg9.out.below hB (Nat.le_refl _)
  have Hbg9 : Hid (Bl 31 w10 w1.heap.size [.slice gx0 gx1 gx2, .slice gy0 gy1 gy2, .bool false]) := Hbg8.out.below hB Hbg8.out.lt
  have Hpt8 : Hid (Pn w10 (.slice tx0 tx1 tx2) (.slice ty0 ty1 ty2) eB2) := Hpt7.out.below hB (Nat.le_refl _)
  have Hbt7 : Hid (Bl 31 w10 w3.heap.size [.slice tx0 tx1 tx2, .slice ty0 ty1 ty2, .bool false]) := Hbt6.out.below hB Hbt6.out.lt
  have Hn6 : Hid (Nu w10 (.slice (some ⟨w3.heap.size + 1, 0, none⟩) 1 1) 2) := Hn5.out.below hB (Nat.le_refl _)
  have Hpa5 : Hid (Pn w10 (.slice ax0 ax1 ax2) (.slice ay0 ay1 ay2) eB2) := Hpa4.out.below hB (Nat.le_refl _)
  have Hba4 : Hid (Bl 31 w10 w5.heap.size [.slice ax0 ax1 ax2, .slice ay0 ay1 ay2, .bool false]) := Hba3.out.below hB Hba3.out.lt
  clear hB
  rw [decide_eq_false eB2_ne]
  go_wp2_with fail
  refine (known_v _ (HT.out.1.below HB11.out (Nat.le_refl _)) (HT.out.2.below HB11.out)).mono ?_
  rintro e w11 ⟨rfl, hB⟩
  have HB12 : Hid (Below w.heap.size w w11) := HB11.out.trans (hB.mono HB11.out.size)
  have Hpg11 : Hid (Pn w11 (.slice gx0 gx1 gx2) (.slice gy0 gy1 gy2) eB) := Hpg10.out.below hB (Nat.le_refl _)
  have Hbg10 : Hid (Bl 31 w11 w1.heap.size [.slice gx0 gx1 gx2, .slice gy0 gy1 gy2, .bool false]) := Hbg9.out.below hB Hbg9.out.lt
  have Hpt9 : Hid (Pn w11 (.slice tx0 tx1 tx2) (.slice ty0 ty1 ty2) eB2) := Hpt8.out.below hB (Nat.le_refl _)
  have Hbt8 : Hid (Bl 31 w11 w3.heap.size [.slice tx0 tx1 tx2, .slice ty0 ty1 ty2, .bool false]) := Hbt7.out.below hB Hbt7.out.lt
  have Hn7 : Hid (Nu w11 (.slice (some ⟨w3.heap.size + 1, 0, none⟩) 1 1) 2) := Hn6.out.below hB (Nat.le_refl _)
  have Hpa6 : Hid (Pn w11 (.slice ax0 ax1 ax2) (.slice ay0 ay1 ay2) eB2) := Hpa5.out.below hB (Nat.le_refl _)
  have Hba5 : Hid (Bl 31 w11 w5.heap.size [.slice ax0 ax1 ax2, .slice ay0 ay1 ay2, .bool false]) := Hba4.out.below hB Hba4.out.lt
  clear hB
  go_wp2
  go_ret
  exact ⟨rfl, HB12.out⟩
end Go.Proofs.YtjpjepfmphlneaaGreatDoor
