import Derived.Test.YtkaoobdemaahbaaRd5
namespace Go.Proofs.Ytkaoobdemaahbaa
open Go.RowKit

theorem pe_none {d : Nat} {l : List UInt8} (hm : meas l = none) : pe d l = .error (0, 80) := by
  cases d <;> simp only [pe, hm]
theorem pe_prim {d : Nat} {l : List UInt8} {h wl : Nat} (hm : meas l = some (h, wl)) (hc : con ((l.getD 0 0).toNat : Int) = false) : pe d l = if sound ⟨((l.getD 0 0).toNat : Int), inn l h wl, 0⟩ then .ok ([⟨((l.getD 0 0).toNat : Int), inn l h wl, 0⟩], wl) else .error (0, 80) := by
  cases d <;> (simp only [pe, hm, hc]; rfl)
theorem pe_bad {d : Nat} {l : List UInt8} {h wl : Nat} (hm : meas l = some (h, wl)) (hc : con ((l.getD 0 0).toNat : Int) = true) (hs : sound ⟨((l.getD 0 0).toNat : Int), [], 0⟩ = false) : pe d l = .error (0, 80) := by
  cases d <;> (simp only [pe, hm, hc, hs]; rfl)
theorem pe_deep {l : List UInt8} {h wl : Nat} (hm : meas l = some (h, wl)) (hc : con ((l.getD 0 0).toNat : Int) = true) (hs : sound ⟨((l.getD 0 0).toNat : Int), [], 0⟩ = true) : pe 0 l = .error (0, 11) := by
  simp only [pe, hm, hc, hs]; rfl
theorem pe_con_err {d : Nat} {l : List UInt8} {h wl : Nat} {p : Nat} {c : Int} (hm : meas l = some (h, wl)) (hc : con ((l.getD 0 0).toNat : Int) = true) (hs : sound ⟨((l.getD 0 0).toNat : Int), [], 0⟩ = true) (hk : pk (pe d) (inn l h wl).length (inn l h wl) = .error (p, c)) : pe (d + 1) l = .error (h + p, c) := by
  simp only [pe, hm, hc, hs, hk]; rfl
theorem pe_con_ok {d : Nat} {l : List UInt8} {h wl m : Nat} {us : List E} (hm : meas l = some (h, wl)) (hc : con ((l.getD 0 0).toNat : Int) = true) (hs : sound ⟨((l.getD 0 0).toNat : Int), [], 0⟩ = true) (hk : pk (pe d) (inn l h wl).length (inn l h wl) = .ok (us, m)) : pe (d + 1) l = .ok (⟨((l.getD 0 0).toNat : Int), [], m⟩ :: us, wl) := by
  simp only [pe, hm, hc, hs, hk]; rfl

/-- A list of one's own. -/
structure Lst (base : Nat) (w : World) (v : Value) (xs : List X) : Prop where
  own : w.ownsRow base 32 3 v xs.length (xCs xs)
  dat : ∀ x ∈ xs, w.ownsRow base 5 1 (xD x) x.e.data.length (x.e.data.map B)
  sep : xs.Pairwise fun x y => ∀ g, (xD x).ownBlock = some g → (xD y).ownBlock ≠ some g
  num : ∀ x ∈ xs, 0 ≤ x.e.kids ∧ x.e.kids ≤ 65536

theorem Lst.nil (base : Nat) (w : World) : Lst base w (.slice none 0 0) [] := ⟨World.ownsRow_nil _ _ _ _, (fun x hx => by cases hx), List.Pairwise.nil, (fun x hx => by cases hx)⟩
theorem Lst.below {base k : Nat} {w w' : World} {v : Value} {xs : List X} (h : Lst base w v xs) (hb : Below k w w') (hk : w.heap.size ≤ k) : Lst base w' v xs :=
  ⟨own_below h.own hb hk, fun x hx => own_below (h.dat x hx) hb hk, h.sep, h.num⟩

end Go.Proofs.Ytkaoobdemaahbaa
