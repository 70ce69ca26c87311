import Derived.Test.YtlapkbdjipocoaaDoorUd
namespace Go.Proofs.YtlapkbdjipocoaaDoor
open Go.RowKit Go.Shelf

set_option maxRecDepth 100000 in
set_option maxHeartbeats 16000000 in
theorem value_step (w0 : World) (l : List Nd) (ao : Option Addr) (cap f : Nat) (h : NR w0 (.slice ao l.length cap) l ao cap) (ht : TB l) (hl : l.length ≤ 1000000000) (ih : WiC w0 l ao cap f) : WvC w0 l ao cap (f + 1) := by
  intro w b full i a d m j m' hb hw hs
  obtain ⟨hi, hwm, m2, hsk⟩ := svF_parts hs
  have hkd := wm_kind hwm
  have htx := (ht.at hi).1
  have hpe := prF_end (f + 1) i a d m j m' hs
  have IH : Hid (∀ wq o c, Below w0.heap.size w0 wq → WE w0.heap.size wq b full → Calls Tryd.prog 52 #[.pointer (some ⟨b, 0, none⟩), .slice ao l.length cap, .int .i64 (i : Int), .string { data := #[o] }, .string { data := #[c] }] wq fun e w' => e = .returned (.int .i64 (j : Int)) ∧ Below w0.heap.size w0 w' ∧ WE w0.heap.size w' b (full ++ (o :: ((pkF (prF l f) l (decide ((l.getD i (nd0 0)).kind = 7)) (l.length + 1) true (l.getD i (nd0 0)).kids (i + 1)).1 ++ [c])))) := fun wq o c hq hw2 => ih wq b full i d m2 j m' o c hq hw2 hi hsk
  obtain ⟨g, off, rfl, hcell⟩ := (h.below hb (Nat.le_refl _)).at hi
  obtain ⟨n, hn⟩ : ∃ n, l.getD i (nd0 0) = n := ⟨_, rfl⟩
  have hpr : (prF l (f + 1) i) = prF l (f + 1) i := rfl
  conv at hpr => rhs; unfold prF
  simp only [hn] at hpr
  rw [hn] at hcell hkd htx IH
  have HP : Hid (∀ (wq : World) (p : List UInt8), WE w0.heap.size wq b full → p.length ≤ 1073741824 → Calls Tryd.prog 50 #[.pointer (some ⟨b, 0, none⟩), .string ⟨p.toArray⟩] wq fun e w' => e = .returned (.tuple #[]) ∧ Below w0.heap.size wq w' ∧ WE w0.heap.size w' b (full ++ p)) := fun wq p h hp => put_we p h hp
  have HQ : Hid (∀ (wq : World) (p : List UInt8), WE w0.heap.size wq b full → p.length ≤ 1073741824 → Calls Tryd.prog 51 #[.pointer (some ⟨b, 0, none⟩), .string ⟨p.toArray⟩] wq fun e w' => e = .returned (.tuple #[]) ∧ Below w0.heap.size wq w' ∧ WE w0.heap.size w' b (full ++ quoS p)) := fun wq p h hp => quote_any p h hp
  clear hs hwm hsk ih h ht hn
  obtain ⟨kind, key, text, whole, int, kids⟩ := n
  simp only at hpr hkd htx
  have k0 := hcell 0 (.int .i64 kind) (by omega) rfl
  rw [Nat.add_zero] at k0
  have k1 := hcell 1 (.string ⟨key.toArray⟩) (by omega) rfl
  have k2 := hcell 2 (.string ⟨text.toArray⟩) (by omega) rfl
  have k3 := hcell 3 (.bool whole) (by omega) rfl
  have k4 := hcell 4 (.int .i64 int) (by omega) rfl
  have k5 := hcell 5 (.int .i64 kids) (by omega) rfl
  clear hcell
  obtain ⟨W, hW⟩ : ∃ W : World, W = w.alloc (.cells #[.int .i64 kind, .string ⟨key.toArray⟩, .string ⟨text.toArray⟩, .bool whole, .int .i64 int, .int .i64 kids] 33) := ⟨_, rfl⟩
  have hB1 : Below w.heap.size w W := by rw [hW]; exact alloc_below _ _
  have hbx : Bl 33 W w.heap.size [.int .i64 kind, .string ⟨key.toArray⟩, .string ⟨text.toArray⟩, .bool whole, .int .i64 int, .int .i64 kids] := by rw [hW]; exact alloc_bl _ _ _
  have x0 : W.cell? ⟨w.heap.size, 0, none⟩ = some (.int .i64 kind) := hbx.cell 0 (by simp)
  have x2 : W.cell? ⟨w.heap.size, 2, none⟩ = some (.string ⟨text.toArray⟩) := hbx.cell 2 (by simp)
  have hBW : Below w0.heap.size w0 W := hb.trans (hB1.mono hb.size)
  have HBW : Hid (Below w0.heap.size w0 W) := hBW
  have hWE : WE w0.heap.size W b full := hw.below hB1
  have HWE : Hid (WE w0.heap.size W b full) := hWE
  clear hb hw hbx hB1 hBW hWE
  have hcases : kind = 1 ∨ kind = 2 ∨ kind = 3 ∨ kind = 4 ∨ kind = 5 ∨ kind = 6 ∨ kind = 7 := by omega
  clear hkd
  have HJ : Hid ((prF l (f + 1) i).2 = j) := hpe
  have HR : Hid (prF l (f + 1) i = _) := hpr
  clear hpe hpr
  rcases hcases with hk | hk | hk | hk | hk | hk | hk
  · subst hk
    have HX : Hid (prF l (f + 1) i = _) := HR
    have hj : j = i + 1 := by rw [← HJ.out, HR.out]; rfl
    have C := (show Calls Tryd.prog 50 #[.pointer (some ⟨b, 0, none⟩), .string { data := #[110, 117, 108, 108] }] W fun e w' => e = .returned (.tuple #[]) ∧ Below w0.heap.size W w' ∧ WE w0.heap.size w' b (full ++ [110, 117, 108, 108]) from HP.out W [110, 117, 108, 108] HWE.out (by simp))
    have HY : Hid ((prF l (f + 1) i).1 = [110, 117, 108, 108]) := by show _ = _; rw [HR.out]; rfl
    clear HR HX HJ HP HQ IH
    subst hW
    subst hj
    go_enter Tryd.func37, Tryd.ntmps37
    go_wp2_with fail
    refine C.mono ?_
    clear C
    rintro e w2 ⟨rfl, hB2, hW2⟩
    have HB2 : Hid (Below w0.heap.size w0 w2) := HBW.out.trans hB2
    have HW2 : Hid (WE w0.heap.size w2 b _) := hW2
    clear hB2 hW2
    go_wp2
    go_ret
    rw [HY.out]
    exact ⟨by go_num, HB2.out, HW2.out⟩
  · subst hk
    have HX : Hid (prF l (f + 1) i = _) := HR
    have hj : j = i + 1 := by rw [← HJ.out, HR.out]; rfl
    have C := (show Calls Tryd.prog 50 #[.pointer (some ⟨b, 0, none⟩), .string { data := #[102, 97, 108, 115, 101] }] W fun e w' => e = .returned (.tuple #[]) ∧ Below w0.heap.size W w' ∧ WE w0.heap.size w' b (full ++ [102, 97, 108, 115, 101]) from HP.out W [102, 97, 108, 115, 101] HWE.out (by simp))
    have HY : Hid ((prF l (f + 1) i).1 = [102, 97, 108, 115, 101]) := by show _ = _; rw [HR.out]; rfl
    clear HR HX HJ HP HQ IH
    subst hW
    subst hj
    go_enter Tryd.func37, Tryd.ntmps37
    go_wp2_with fail
    refine C.mono ?_
    clear C
    rintro e w2 ⟨rfl, hB2, hW2⟩
    have HB2 : Hid (Below w0.heap.size w0 w2) := HBW.out.trans hB2
    have HW2 : Hid (WE w0.heap.size w2 b _) := hW2
    clear hB2 hW2
    go_wp2
    go_ret
    rw [HY.out]
    exact ⟨by go_num, HB2.out, HW2.out⟩
  · subst hk
    have HX : Hid (prF l (f + 1) i = _) := HR
    have hj : j = i + 1 := by rw [← HJ.out, HR.out]; rfl
    have C := (show Calls Tryd.prog 50 #[.pointer (some ⟨b, 0, none⟩), .string { data := #[116, 114, 117, 101] }] W fun e w' => e = .returned (.tuple #[]) ∧ Below w0.heap.size W w' ∧ WE w0.heap.size w' b (full ++ [116, 114, 117, 101]) from HP.out W [116, 114, 117, 101] HWE.out (by simp))
    have HY : Hid ((prF l (f + 1) i).1 = [116, 114, 117, 101]) := by show _ = _; rw [HR.out]; rfl
    clear HR HX HJ HP HQ IH
    subst hW
    subst hj
    go_enter Tryd.func37, Tryd.ntmps37
    go_wp2_with fail
    refine C.mono ?_
    clear C
    rintro e w2 ⟨rfl, hB2, hW2⟩
    have HB2 : Hid (Below w0.heap.size w0 w2) := HBW.out.trans hB2
    have HW2 : Hid (WE w0.heap.size w2 b _) := hW2
    clear hB2 hW2
    go_wp2
    go_ret
    rw [HY.out]
    exact ⟨by go_num, HB2.out, HW2.out⟩
  · subst hk
    have HX : Hid (prF l (f + 1) i = _) := HR
    have hj : j = i + 1 := by rw [← HJ.out, HR.out]; rfl
    have C := HP.out W text HWE.out htx
    have HY : Hid ((prF l (f + 1) i).1 = text) := by show _ = _; rw [HR.out]; rfl
    clear HR HX HJ HP HQ IH
    subst hW
    subst hj
    go_enter Tryd.func37, Tryd.ntmps37
    go_wp2_with fail
    refine C.mono ?_
    clear C
    rintro e w2 ⟨rfl, hB2, hW2⟩
    have HB2 : Hid (Below w0.heap.size w0 w2) := HBW.out.trans hB2
    have HW2 : Hid (WE w0.heap.size w2 b _) := hW2
    clear hB2 hW2
    go_wp2
    go_ret
    rw [HY.out]
    exact ⟨by go_num, HB2.out, HW2.out⟩
  · subst hk
    have HX : Hid (prF l (f + 1) i = _) := HR
    have hj : j = i + 1 := by rw [← HJ.out, HR.out]; rfl
    have C := HQ.out W text HWE.out htx
    have HY : Hid ((prF l (f + 1) i).1 = quoS text) := by show _ = _; rw [HR.out]; rfl
    clear HR HX HJ HP HQ IH
    subst hW
    subst hj
    go_enter Tryd.func37, Tryd.ntmps37
    go_wp2_with fail
    refine C.mono ?_
    clear C
    rintro e w2 ⟨rfl, hB2, hW2⟩
    have HB2 : Hid (Below w0.heap.size w0 w2) := HBW.out.trans hB2
    have HW2 : Hid (WE w0.heap.size w2 b _) := hW2
    clear hB2 hW2
    go_wp2
    go_ret
    rw [HY.out]
    exact ⟨by go_num, HB2.out, HW2.out⟩
  · subst hk
    have HX : Hid (prF l (f + 1) i = _) := HR
    have C := IH.out W 91 93 HBW.out HWE.out
    have HY : Hid ((prF l (f + 1) i).1 = 91 :: ((pkF (prF l f) l false (l.length + 1) true kids (i + 1)).1 ++ [93])) := by show _ = _; rw [HR.out]; rfl
    clear HR HX HJ HP HQ IH
    subst hW
    go_enter Tryd.func37, Tryd.ntmps37
    go_wp2_with fail
    refine C.mono ?_
    clear C
    rintro e w2 ⟨rfl, hB2, hW2⟩
    have HB2 : Hid (Below w0.heap.size w0 w2) := hB2
    have HW2 : Hid (WE w0.heap.size w2 b _) := hW2
    clear hB2 hW2
    go_wp2
    go_ret
    rw [HY.out]
    exact ⟨rfl, HB2.out, HW2.out⟩
  · subst hk
    have HX : Hid (prF l (f + 1) i = _) := HR
    have C := IH.out W 123 125 HBW.out HWE.out
    have HY : Hid ((prF l (f + 1) i).1 = 123 :: ((pkF (prF l f) l true (l.length + 1) true kids (i + 1)).1 ++ [125])) := by show _ = _; rw [HR.out]; rfl
    clear HR HX HJ HP HQ IH
    subst hW
    go_enter Tryd.func37, Tryd.ntmps37
    go_wp2_with fail
    refine C.mono ?_
    clear C
    rintro e w2 ⟨rfl, hB2, hW2⟩
    have HB2 : Hid (Below w0.heap.size w0 w2) := hB2
    have HW2 : Hid (WE w0.heap.size w2 b _) := hW2
    clear hB2 hW2
    go_wp2
    go_ret
    rw [HY.out]
    exact ⟨rfl, HB2.out, HW2.out⟩

theorem value_all (w0 : World) (l : List Nd) (ao : Option Addr) (cap : Nat) (h : NR w0 (.slice ao l.length cap) l ao cap) (ht : TB l) (hl : l.length ≤ 1000000000) : ∀ f, WvC w0 l ao cap f
  | 0 => by intro w b full i a d m j m' _ _ hs; unfold svF at hs; cases hs
  | f + 1 => value_step w0 l ao cap f h ht hl (inner_step w0 l ao cap f h ht hl (value_all w0 l ao cap h ht hl f))

end Go.Proofs.YtlapkbdjipocoaaDoor
