import Derived.Test.YtibgpcheembdkaaDoorAbc
import Derived.Lib.SlBytesConst
namespace Go.Proofs.YtibgpcheembdkaaDoor
open Go.RowKit

theorem alloc_last (w : World) (o : Obj) : (w.alloc o).heap[w.heap.size]? = some o := by unfold World.alloc; simp
theorem alloc_size (w : World) (o : Obj) : (w.alloc o).heap.size = w.heap.size + 1 := by unfold World.alloc; simp

/-- A list of one part, both new. -/
theorem abc_pts (w : World) (t1 t2 : TypeId) (W : World) (hW : W = (w.alloc (.cells #[.int .u8 97, .int .u8 98, .int .u8 99] t1 (3, 4))).alloc (.cells #[.slice (some ⟨w.heap.size, 0, none⟩) 3 3] t2)) :
    Below w.heap.size w W ∧ Pts W (some ⟨w.heap.size + 1, 0, none⟩) [⟨some ⟨w.heap.size, 0, none⟩, 3, [97, 98, 99]⟩] := by
  obtain ⟨w1, hw1⟩ : ∃ w1, w1 = w.alloc (.cells #[.int .u8 97, .int .u8 98, .int .u8 99] t1 (3, 4)) := ⟨_, rfl⟩
  rw [← hw1] at hW
  have h1 : Below w.heap.size w w1 := by rw [hw1]; exact alloc_below _ _
  have h2 : Below w1.heap.size w1 W := by rw [hW]; exact alloc_below _ _
  have e1 : w1.heap.size = w.heap.size + 1 := by rw [hw1]; exact alloc_size _ _
  have a1 : W.heap[w.heap.size]? = some (.cells #[.int .u8 97, .int .u8 98, .int .u8 99] t1 (3, 4)) := by
    rw [h2.block _ (by omega), hw1]
    exact alloc_last _ _
  have a2 : W.heap[w.heap.size + 1]? = some (.cells #[.slice (some ⟨w.heap.size, 0, none⟩) 3 3] t2) := by
    rw [← e1, hW]
    exact alloc_last _ _
  refine ⟨h1.trans (h2.mono (by omega)), .inr ⟨_, 0, rfl, fun j hj => ?_⟩, fun p hp => ?_⟩
  · have : j = 0 := by simpa using hj
    subst this
    unfold World.cell?
    simp [a2, prV]
  · obtain rfl := List.mem_singleton.1 hp
    refine ⟨.inr ⟨w.heap.size, 0, rfl, (Array.getElem?_eq_some_iff.1 a1).1, fun j hj => ?_⟩, by simp, by simp⟩
    have hj2 : j = 0 ∨ j = 1 ∨ j = 2 := by have : j < 3 := by simpa using hj
                                           omega
    unfold World.cell?
    rcases hj2 with rfl | rfl | rfl <;> simp [a1, B]

theorem own_cell {w : World} {B0 : Nat} {a : Option Addr} {l : List UInt8} (h : Own w B0 a l) (hl : 0 < l.length) : ∃ g, a = some ⟨g, 0, none⟩ ∧ B0 ≤ g ∧ Cl w g (l.map B) := by
  rcases h with ⟨_, h⟩ | h
  · subst h; simp at hl
  · obtain ⟨g, e, hg, hc⟩ := h
    exact ⟨g, e, hg, hc.cl⟩
theorem own_bl {w : World} {B0 : Nat} {a : Option Addr} {l : List UInt8} (h : Own w B0 a l) (hl : 0 < l.length) : ∃ g, a = some ⟨g, 0, none⟩ ∧ B0 ≤ g ∧ Bl 5 w g (l.map B) := by
  rcases h with ⟨_, h⟩ | h
  · subst h; simp at hl
  · exact h

set_option maxRecDepth 100000 in
set_option maxHeartbeats 1000000 in
theorem awake_any (w : World) (T : Tb w) : Calls Tryd.prog 13 #[] w fun e w' => e = .returned (.bool true) ∧ Below w.heap.size w w' := by
  have HT : Hid (Tb w) := T
  have kc := fun (w : World) (C : Array Value) (n c : Nat) => Lib.run_convert_bytes_const (P := Tryd.prog) w 23 5 C n c Tryd.underlying23 Tryd.underlying5
  clear T
  go_enter Tryd.func13, Tryd.ntmps13
  go_wp2_with fail
  obtain ⟨x1, hx1⟩ : ∃ W, W = (w.alloc (.cells #[.int .u8 97, .int .u8 98, .int .u8 99] 5 (3, 4))).alloc (.cells #[.slice (some ⟨w.heap.size, 0, none⟩) 3 3] 23) := ⟨_, rfl⟩
  obtain ⟨hb1, hp1⟩ := abc_pts w 5 23 x1 hx1
  rw [← hx1]
  have C1 := ssum_any 1 (some ⟨w.heap.size + 1, 0, none⟩) 1 _ x1 (HT.out.below hb1) hp1 (by simp) (by simp [cat])
  refine C1.mono ?_
  rintro e w1 ⟨a1, rfl, ho1, hq1⟩
  have ho'1 : Own w1 x1.heap.size a1 [186, 120, 22, 191, 143, 1, 207, 234, 65, 65, 64, 222, 93, 174, 34, 35, 176, 3, 97, 163, 150, 23, 122, 156, 180, 16, 255, 97, 242, 0, 21, 173] := by
    have e : sumF 1 (cat [⟨some ⟨w.heap.size, 0, none⟩, 3, [97, 98, 99]⟩]) = [186, 120, 22, 191, 143, 1, 207, 234, 65, 65, 64, 222, 93, 174, 34, 35, 176, 3, 97, 163, 150, 23, 122, 156, 180, 16, 255, 97, 242, 0, 21, 173] := abc_1
    rw [e] at ho1
    exact ho1
  obtain ⟨g1, rfl, hg1, hcl1⟩ := own_cell ho'1 (by decide)
  have HL1 : Hid (Cl w1 g1 (([186, 120, 22, 191, 143, 1, 207, 234, 65, 65, 64, 222, 93, 174, 34, 35, 176, 3, 97, 163, 150, 23, 122, 156, 180, 16, 255, 97, 242, 0, 21, 173] : List UInt8).map B)) := hcl1
  have HB1 : Hid (Below w.heap.size w w1) := hb1.trans (hq1.mono hb1.size)
  have T1 : Hid (Tb w1) := HT.out.below HB1.out
  clear C1 ho1 ho'1 hp1 hcl1 hb1 hq1
  have hz1 : siz 1 = 32 := rfl
  rw [hz1]
  go_wp2_with fail
  obtain ⟨x2, hx2⟩ : ∃ W, W = (w1.alloc (.cells #[.int .u8 97, .int .u8 98, .int .u8 99] 5 (3, 4))).alloc (.cells #[.slice (some ⟨w1.heap.size, 0, none⟩) 3 3] 23) := ⟨_, rfl⟩
  obtain ⟨hb2, hp2⟩ := abc_pts w1 5 23 x2 hx2
  rw [← hx2]
  have C2 := ssum_any 2 (some ⟨w1.heap.size + 1, 0, none⟩) 1 _ x2 (T1.out.below hb2) hp2 (by simp) (by simp [cat])
  refine C2.mono ?_
  rintro e w2 ⟨a2, rfl, ho2, hq2⟩
  have ho'2 : Own w2 x2.heap.size a2 [203, 0, 117, 63, 69, 163, 94, 139, 181, 160, 61, 105, 154, 198, 80, 7, 39, 44, 50, 171, 14, 222, 209, 99, 26, 139, 96, 90, 67, 255, 91, 237, 128, 134, 7, 43, 161, 231, 204, 35, 88, 186, 236, 161, 52, 200, 37, 167] := by
    have e : sumF 2 (cat [⟨some ⟨w1.heap.size, 0, none⟩, 3, [97, 98, 99]⟩]) = [203, 0, 117, 63, 69, 163, 94, 139, 181, 160, 61, 105, 154, 198, 80, 7, 39, 44, 50, 171, 14, 222, 209, 99, 26, 139, 96, 90, 67, 255, 91, 237, 128, 134, 7, 43, 161, 231, 204, 35, 88, 186, 236, 161, 52, 200, 37, 167] := abc_2
    rw [e] at ho2
    exact ho2
  obtain ⟨g2, rfl, hg2, hcl2⟩ := own_cell ho'2 (by decide)
  have HL2 : Hid (Cl w2 g2 (([203, 0, 117, 63, 69, 163, 94, 139, 181, 160, 61, 105, 154, 198, 80, 7, 39, 44, 50, 171, 14, 222, 209, 99, 26, 139, 96, 90, 67, 255, 91, 237, 128, 134, 7, 43, 161, 231, 204, 35, 88, 186, 236, 161, 52, 200, 37, 167] : List UInt8).map B)) := hcl2
  have HB2 : Hid (Below w.heap.size w w2) := HB1.out.trans ((hb2.trans (hq2.mono hb2.size)).mono HB1.out.size)
  have T2 : Hid (Tb w2) := HT.out.below HB2.out
  have HL1' : Hid (Cl w2 g1 (([186, 120, 22, 191, 143, 1, 207, 234, 65, 65, 64, 222, 93, 174, 34, 35, 176, 3, 97, 163, 150, 23, 122, 156, 180, 16, 255, 97, 242, 0, 21, 173] : List UInt8).map B)) := HL1.out.below (hb2.trans (hq2.mono hb2.size)) HL1.out.lt
  clear HL1
  have HL1 := HL1'
  clear HL1'
  clear C2 ho2 ho'2 hp2 hcl2 hb2 hq2
  have hz2 : siz 2 = 48 := rfl
  rw [hz2]
  go_wp2_with fail
  obtain ⟨x3, hx3⟩ : ∃ W, W = (w2.alloc (.cells #[.int .u8 97, .int .u8 98, .int .u8 99] 5 (3, 4))).alloc (.cells #[.slice (some ⟨w2.heap.size, 0, none⟩) 3 3] 23) := ⟨_, rfl⟩
  obtain ⟨hb3, hp3⟩ := abc_pts w2 5 23 x3 hx3
  rw [← hx3]
  have C3 := ssum_any 3 (some ⟨w2.heap.size + 1, 0, none⟩) 1 _ x3 (T2.out.below hb3) hp3 (by simp) (by simp [cat])
  refine C3.mono ?_
  rintro e w3 ⟨a3, rfl, ho3, hq3⟩
  have ho'3 : Own w3 x3.heap.size a3 [221, 175, 53, 161, 147, 97, 122, 186, 204, 65, 115, 73, 174, 32, 65, 49, 18, 230, 250, 78, 137, 169, 126, 162, 10, 158, 238, 230, 75, 85, 211, 154, 33, 146, 153, 42, 39, 79, 193, 168, 54, 186, 60, 35, 163, 254, 235, 189, 69, 77, 68, 35, 100, 60, 232, 14, 42, 154, 201, 79, 165, 76, 164, 159] := by
    have e : sumF 3 (cat [⟨some ⟨w2.heap.size, 0, none⟩, 3, [97, 98, 99]⟩]) = [221, 175, 53, 161, 147, 97, 122, 186, 204, 65, 115, 73, 174, 32, 65, 49, 18, 230, 250, 78, 137, 169, 126, 162, 10, 158, 238, 230, 75, 85, 211, 154, 33, 146, 153, 42, 39, 79, 193, 168, 54, 186, 60, 35, 163, 254, 235, 189, 69, 77, 68, 35, 100, 60, 232, 14, 42, 154, 201, 79, 165, 76, 164, 159] := abc_3
    rw [e] at ho3
    exact ho3
  obtain ⟨g3, rfl, hg3, hcl3⟩ := own_cell ho'3 (by decide)
  have HL3 : Hid (Cl w3 g3 (([221, 175, 53, 161, 147, 97, 122, 186, 204, 65, 115, 73, 174, 32, 65, 49, 18, 230, 250, 78, 137, 169, 126, 162, 10, 158, 238, 230, 75, 85, 211, 154, 33, 146, 153, 42, 39, 79, 193, 168, 54, 186, 60, 35, 163, 254, 235, 189, 69, 77, 68, 35, 100, 60, 232, 14, 42, 154, 201, 79, 165, 76, 164, 159] : List UInt8).map B)) := hcl3
  have HB3 : Hid (Below w.heap.size w w3) := HB2.out.trans ((hb3.trans (hq3.mono hb3.size)).mono HB2.out.size)
  have T3 : Hid (Tb w3) := HT.out.below HB3.out
  have HL1' : Hid (Cl w3 g1 (([186, 120, 22, 191, 143, 1, 207, 234, 65, 65, 64, 222, 93, 174, 34, 35, 176, 3, 97, 163, 150, 23, 122, 156, 180, 16, 255, 97, 242, 0, 21, 173] : List UInt8).map B)) := HL1.out.below (hb3.trans (hq3.mono hb3.size)) HL1.out.lt
  clear HL1
  have HL1 := HL1'
  clear HL1'
  have HL2' : Hid (Cl w3 g2 (([203, 0, 117, 63, 69, 163, 94, 139, 181, 160, 61, 105, 154, 198, 80, 7, 39, 44, 50, 171, 14, 222, 209, 99, 26, 139, 96, 90, 67, 255, 91, 237, 128, 134, 7, 43, 161, 231, 204, 35, 88, 186, 236, 161, 52, 200, 37, 167] : List UInt8).map B)) := HL2.out.below (hb3.trans (hq3.mono hb3.size)) HL2.out.lt
  clear HL2
  have HL2 := HL2'
  clear HL2'
  clear C3 ho3 ho'3 hp3 hcl3 hb3 hq3
  have hz3 : siz 3 = 64 := rfl
  rw [hz3]
  have c10 := HL1.out.cell 0 (by decide)
  have c11 := HL1.out.cell 31 (by decide)
  have d10 : w3.cell? ⟨g1, 0, none⟩ = some (.int .u8 186) := c10
  have d11 : w3.cell? ⟨g1, 31, none⟩ = some (.int .u8 173) := c11
  clear c10 c11
  have c20 := HL2.out.cell 0 (by decide)
  have c21 := HL2.out.cell 47 (by decide)
  have d20 : w3.cell? ⟨g2, 0, none⟩ = some (.int .u8 203) := c20
  have d21 : w3.cell? ⟨g2, 47, none⟩ = some (.int .u8 167) := c21
  clear c20 c21
  have c30 := HL3.out.cell 0 (by decide)
  have c31 := HL3.out.cell 63 (by decide)
  have d30 : w3.cell? ⟨g3, 0, none⟩ = some (.int .u8 221) := c30
  have d31 : w3.cell? ⟨g3, 63, none⟩ = some (.int .u8 159) := c31
  clear c30 c31
  clear kc hx1 hx2 hx3
  go_wp2
  go_ret
  exact ⟨rfl, HB3.out⟩

end Go.Proofs.YtibgpcheembdkaaDoor
