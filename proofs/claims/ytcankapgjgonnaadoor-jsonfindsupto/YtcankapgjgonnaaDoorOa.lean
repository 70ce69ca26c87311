import Derived.Test.YtcankapgjgonnaaDoorMa
namespace Go.Proofs.YtcankapgjgonnaaDoor
open Go.RowKit Go.Shelf

/-- The two marks behind a list that was lent. -/
def m91 : Nd := ⟨91, [], [], false, 0, 0⟩
def m92 : Nd := ⟨92, [], [], false, 0, 0⟩

theorem no_pre {B : Nat} {w : World} {g n cap : Nat} {l M : List Nd} (h : NO B w (.slice (some ⟨g, 0, none⟩) n cap) (l ++ M)) : NR w (.slice (some ⟨g, 0, none⟩) l.length cap) l (some ⟨g, 0, none⟩) cap := by
  obtain ⟨a, c, e, hc, _⟩ := own_slice h
  cases e
  have hlt := (h.lt g rfl).2
  rw [List.length_append] at hc
  refine ⟨rfl, by omega, .inr ⟨g, 0, rfl, hlt, fun j u hu => ?_⟩⟩
  rw [Nat.zero_add]
  unfold NO at h
  refine (own_cell h j u ?_).1
  rw [nCs_append, List.getElem?_append_left (List.getElem?_eq_some_iff.1 hu).1]
  exact hu
theorem no_kinds {B : Nat} {w : World} {g n cap : Nat} {l : List Nd} (h : NO B w (.slice (some ⟨g, 0, none⟩) n cap) (l ++ [m91, m92])) : w.cell? ⟨g, l.length * 6, none⟩ = some (.int .i64 91) ∧ w.cell? ⟨g, (l.length + 1) * 6, none⟩ = some (.int .i64 92) := by
  unfold NO at h
  obtain ⟨a, c, e2, _, _⟩ := own_slice h
  cases e2
  refine ⟨(own_cell h (l.length * 6) _ ?_).1, (own_cell h ((l.length + 1) * 6) _ ?_).1⟩
  · rw [nCs_append, List.getElem?_append_right (by rw [nCs_length]; omega), nCs_length, show l.length * 6 - l.length * 6 = 0 by omega]
    rfl
  · rw [nCs_append, List.getElem?_append_right (by rw [nCs_length]; omega), nCs_length, show (l.length + 1) * 6 - l.length * 6 = 6 by omega]
    rfl

set_option maxRecDepth 100000 in
set_option maxHeartbeats 16000000 in
theorem lent_any (l : List Nd) (va : Option Addr) (vc : Nat) (w : World) (h : NR w (.slice va l.length vc) l va vc) (hvn : va = none → vc = 0) (hl : l.length ≤ 100000000) :
    Calls Tryd.prog 6 #[.slice va l.length vc] w fun e w' => (∃ g c, e = .returned (.slice (some ⟨g, 0, none⟩) l.length c) ∧ NO w.heap.size w' (.slice (some ⟨g, 0, none⟩) (l.length + 2) c) (l ++ [m91, m92])) ∧ Below w.heap.size w w' := by
  have CT := twin_any (.slice va l.length vc) l va vc w h (by omega) hvn
  clear h hvn
  go_enter Tryd.func6, Tryd.ntmps6
  go_wp2_with fail
  refine CT.mono ?_
  clear CT
  rintro e w1 ⟨hb, v1, rfl, hn⟩
  have HB1 : Hid (Below w.heap.size w w1) := hb
  obtain ⟨n1, c1, e1, _, _⟩ := own_slice hn
  subst e1
  obtain ⟨x2, hx2⟩ : ∃ x, w1.alloc (.cells #[.int .i64 91, .string ⟨#[]⟩, .string ⟨#[]⟩, .bool false, .int .i64 0, .int .i64 0, .int .i64 92, .string ⟨#[]⟩, .string ⟨#[]⟩, .bool false, .int .i64 0, .int .i64 0] 33) = x := ⟨_, rfl⟩
  have hA2 : Below w1.heap.size w1 x2 := by rw [← hx2]; exact alloc_below _ _
  have hM2 : Bl 33 x2 w1.heap.size (nCs [m91, m92]) := by rw [← hx2]; exact alloc_bl w1 (nCs [m91, m92]) _
  have HR2 : NR x2 (.slice (some ⟨w1.heap.size, 0, none⟩) 2 2) [m91, m92] (some ⟨w1.heap.size, 0, none⟩) 2 := ⟨rfl, Nat.le_refl _, .inr ⟨w1.heap.size, 0, rfl, hM2.lt, fun j u hu => by
    rw [Nat.zero_add]
    obtain ⟨hj, e⟩ := List.getElem?_eq_some_iff.1 hu
    rw [← e]
    exact hM2.cell j hj⟩⟩
  have HN2 : Hid (NO w.heap.size x2 (.slice n1 l.length c1) l) := own_below hn hA2 (Nat.le_refl _)
  have HB2 : Hid (Below w.heap.size w x2) := HB1.out.trans (hA2.mono HB1.out.size)
  have HS2 : Hid (w.heap.size ≤ x2.heap.size) := HB2.out.size
  clear hA2 hM2 hb hn HB1
  go_upto_region 3 with (at_builtin; refine append_nds rfl (.tmp 6) (.tmp 9) rfl w.heap.size (.slice n1 l.length c1) l rfl HN2.out (some ⟨w1.heap.size, 0, none⟩) 2 [m91, m92] rfl HR2 (fun h => by cases h) (by simp only [List.length_cons, List.length_nil]; omega) HS2.out ?_; intro v3 w3 ho3 hg3; have HB3 : Hid (Below w.heap.size w w3) := HB2.out.grown hg3 HS2.out (own_block HN2.out); have HO3' : Hid (NO w.heap.size w3 v3 (l ++ [m91, m92])) := ho3; obtain ⟨n3, c3, e3, _, _⟩ := own_slice ho3; subst e3; clear ho3 hg3)
  obtain ⟨n3', c3', e3, hc3, hg3'⟩ := own_slice HO3'.out
  obtain ⟨g, e4⟩ := hg3' (by simp)
  cases e3
  subst e4
  have HO3 : Hid (NO w.heap.size w3 (.slice (some ⟨g, 0, none⟩) (l.length + 2) c3) (l ++ [m91, m92])) := by have h := HO3'.out; rw [show (l ++ [m91, m92]).length = l.length + 2 from by simp] at h; exact h
  have hc4 : l.length + 2 ≤ c3 := by simpa using hc3
  have hcn : l.length ≤ c3 := by omega
  have hcnI : (l.length : Int) ≤ (c3 : Int) := by omega
  clear hg3' hc3 HO3' HR2 HN2 HB2 HS2 hx2 hc4
  go_wp2
  go_ret
  exact ⟨⟨g, c3, rfl, HO3.out⟩, HB3.out⟩

set_option maxRecDepth 100000 in
set_option maxHeartbeats 16000000 in
theorem still_any (l : List Nd) (va : Option Addr) (vc g c B : Nat) (w : World) (h : NR w (.slice va l.length vc) l va vc) (hk : NO B w (.slice (some ⟨g, 0, none⟩) (l.length + 2) c) (l ++ [m91, m92])) (hl : l.length ≤ 100000000) :
    Calls Tryd.prog 10 #[.slice (some ⟨g, 0, none⟩) l.length c, .slice va l.length vc] w fun e w' => e = .returned (.bool true) ∧ ∃ q, w' = w.drewN q := by
  have CS := rsame_any (.slice (some ⟨g, 0, none⟩) l.length c) (.slice va l.length vc) l l (some ⟨g, 0, none⟩) va c vc w (no_pre hk) h (by omega)
  rw [decide_eq_true rfl] at CS
  have hc2 : l.length + 2 ≤ c := by
    obtain ⟨a, c', e, hc, _⟩ := own_slice hk
    injection e with _ _ e3
    rw [e3]
    simpa using hc
  have hcI : (l.length : Int) + 2 ≤ (c : Int) := by omega
  have qb0 : (l.length : Int) < (l.length : Int) + 2 := by omega
  have qb1 : (l.length : Int) + 1 < (l.length : Int) + 2 := by omega
  obtain ⟨k1, k2⟩ := no_kinds hk
  have HK1 : Hid (∀ q, (w.drewN q).cell? ⟨g, l.length * 6, none⟩ = some (.int .i64 91)) := fun _ => k1
  have HK2 : Hid (∀ q, (w.drewN q).cell? ⟨g, (l.length + 1) * 6, none⟩ = some (.int .i64 92)) := fun _ => k2
  clear h hk k1 k2
  go_enter Tryd.func10, Tryd.ntmps10
  go_wp2_with fail
  refine CS.mono ?_
  clear CS
  rintro e w1 ⟨rfl, q, rfl⟩
  have k1 := HK1.out q
  have k2 := HK2.out q
  have HQ : Hid (∃ q', w.drewN q = w.drewN q') := ⟨q, rfl⟩
  generalize w.drewN q = w1 at *
  go_wp2
  go_ret
  exact ⟨rfl, HQ.out⟩

end Go.Proofs.YtcankapgjgonnaaDoor
