import Derived.Test.YtpfdaclmchcbiaaDoorLt
import Derived.ProofKit
import Derived.OpenShut
import Derived.ShutString
import Derived.ChangeOld
import Derived.SizedLaws
import Derived.JoinedCond
import Derived.Carry
import Derived.Deep.Slices
namespace Go.Proofs.YtpfdaclmchcbiaaDoor
open Go.ChangeShapes Go.WideShapes Go.ChangeAt Go.RowKit Go.Deep

theorem ownK : ownKnob Tryd.prog.godebug = none := by kernel_rfl
theorem laidO : laidOutB Tryd.prog = true := by kernel_rfl
theorem cellsB : Tryd.prog.cellsOf 5 = 1 := by kernel_rfl

theorem bulk_pos {H : Type} (d : DataW H) : 1 ≤ Rows.uptoBulk d := by
  cases d with
  | lit l => cases l <;> simp [Rows.uptoBulk]
  | _ => simp [Rows.uptoBulk]
theorem bulk_len {H : Type} : ∀ l : List (DataW H), l.length ≤ Rows.uptoBulkAll l
  | [] => by simp [Rows.uptoBulkAll]
  | d :: r => by
    have h1 := bulk_pos d
    have h2 := bulk_len r
    simp only [Rows.uptoBulkAll, List.length_cons]
    omega
theorem bulk_slice {H : Type} (es ss : List (DataW H)) : es.length + ss.length ≤ Rows.uptoBulk (.slice es ss) := by
  have := bulk_len es
  have := bulk_len ss
  simp only [Rows.uptoBulk]
  omega

/-- A slice of bytes that came in. -/
theorem open_bytes {H : Type} {enc : TypeId × Value → H} {W : World} {held : Bool} {v : Value} {d : DataW H} {p : List MemPlace} {fuel : Nat} {a : Option Addr} {len cap : Nat} (hv : v = .slice a len cap)
    (hf : DataW.trod enc Tryd.prog W 0 (fun _ => true) held fuel 29 v.cells.toList = some (d, p)) :
    ∃ l : List UInt8, l.length = len ∧ len ≤ cap ∧ cap ≤ Rows.uptoBulk d ∧ Rd W a l ∧ (a = none → cap = 0) := by
  subst hv
  rcases open_slice1 Tryd.underlying29 cellsB hf with ⟨hcs, hx⟩ | ⟨x, len', cap', m, n, V, D, Pl, hcs, _, hl, hm, hmm, hx, hall⟩
  · simp [Value.cells] at hcs
    obtain ⟨rfl, rfl, rfl⟩ := hcs
    exact ⟨[], rfl, Nat.le_refl _, Nat.zero_le _, .inl rfl, fun _ => rfl⟩
  · simp [Value.cells] at hcs
    obtain ⟨rfl, rfl, rfl⟩ := hcs
    simp only [if_true] at hmm
    subst hmm
    simp only [Prod.mk.injEq] at hx
    have hbk : m ≤ Rows.uptoBulk d := by
      rw [hx.1]
      refine Nat.le_trans ?_ (bulk_slice _ _)
      simp
      omega
    have hz : ∀ i, i < m → ∃ z : Int, V i = .int .u8 z ∧ 0 ≤ z ∧ z ≤ 255 := fun i hi => by
      obtain ⟨z, h1, _, h3⟩ := DataW.trod_int Tryd.underlying5 (hall i hi).2
      simp at h1
      exact ⟨z, h1, bounds_u8 h3⟩
    refine ⟨(List.range len).map fun i => match V i with | .int _ z => UInt8.ofNat z.toNat | _ => 0, by simp, hl, hbk, ?_, fun e => by cases e⟩
    by_cases h0 : len = 0
    · subst h0; exact .inl (by simp)
    · obtain ⟨b, off, spot⟩ := x
      have hc := (hall 0 (by omega)).1
      have hspot : spot = none := by simpa [Addr.add] using World.cell?_spot hc
      subst hspot
      refine .inr ⟨b, off, rfl, World.block_lt_of_cell? W _ (by simpa [Addr.add] using hc), fun j hj => ?_⟩
      have hj' : j < len := by simpa using hj
      have hcj := (hall j (by omega)).1
      rw [Addr.add_lit] at hcj
      rw [hcj]
      obtain ⟨z, e, h1, h2⟩ := hz j (by omega)
      simp only [List.getD_eq_getElem?_getD, List.getElem?_map, List.getElem?_range hj', Option.map_some, Option.getD_some, e]
      unfold B
      rw [UInt8.toNat_ofNat']
      congr 2
      omega
/-- A slice of bytes that came in, with its datum. -/
theorem open_bytesS {H : Type} {enc : TypeId × Value → H} {W : World} {held : Bool} {v : Value} {d : DataW H} {p : List MemPlace} {fuel : Nat} {a : Option Addr} {len cap : Nat} (hv : v = .slice a len cap)
    (hf : DataW.trod enc Tryd.prog W 0 (fun _ => true) held fuel 29 v.cells.toList = some (d, p)) :
    ∃ l : List UInt8, l.length = len ∧ len ≤ cap ∧ cap ≤ maxLen ∧ Rd W a l ∧ (a = none → cap = 0) ∧ ((d = .nil ∧ len = 0) ∨ ∃ es ss, d = .slice es ss ∧ es.length = len) := by
  subst hv
  rcases open_slice1 Tryd.underlying29 cellsB hf with ⟨hcs, hx⟩ | ⟨x, len', cap', m, n, V, D, Pl, hcs, _, hl, hm, hmm, hx, hall⟩
  · simp [Value.cells] at hcs
    obtain ⟨rfl, rfl, rfl⟩ := hcs
    simp only [Prod.mk.injEq] at hx
    exact ⟨[], rfl, Nat.le_refl _, Nat.zero_le _, .inl rfl, fun _ => rfl, .inl ⟨hx.1, rfl⟩⟩
  · simp [Value.cells] at hcs
    obtain ⟨rfl, rfl, rfl⟩ := hcs
    simp only [if_true] at hmm
    subst hmm
    simp only [Prod.mk.injEq] at hx
    have hz : ∀ i, i < m → ∃ z : Int, V i = .int .u8 z ∧ 0 ≤ z ∧ z ≤ 255 := fun i hi => by
      obtain ⟨z, h1, _, h3⟩ := DataW.trod_int Tryd.underlying5 (hall i hi).2
      simp at h1
      exact ⟨z, h1, bounds_u8 h3⟩
    refine ⟨(List.range len).map fun i => match V i with | .int _ z => UInt8.ofNat z.toNat | _ => 0, by simp, hl, hm, ?_, (fun e => by cases e), .inr ⟨_, _, hx.1, by simp⟩⟩
    by_cases h0 : len = 0
    · subst h0; exact .inl (by simp)
    · obtain ⟨b, off, spot⟩ := x
      have hc := (hall 0 (by omega)).1
      have hspot : spot = none := by simpa [Addr.add] using World.cell?_spot hc
      subst hspot
      refine .inr ⟨b, off, rfl, World.block_lt_of_cell? W _ (by simpa [Addr.add] using hc), fun j hj => ?_⟩
      have hj' : j < len := by simpa using hj
      have hcj := (hall j (by omega)).1
      rw [Addr.add_lit] at hcj
      rw [hcj]
      obtain ⟨z, e, h1, h2⟩ := hz j (by omega)
      simp only [List.getD_eq_getElem?_getD, List.getElem?_map, List.getElem?_range hj', Option.map_some, Option.getD_some, e]
      unfold B
      rw [UInt8.toNat_ofNat']
      congr 2
      omega
theorem bytesB : Tryd.prog.bytesOf 5 = 1 := by kernel_rfl
theorem str_of (a : ByteArray) : a = ⟨a.data.toList.toArray⟩ := by cases a; simp

end Go.Proofs.YtpfdaclmchcbiaaDoor
