import Derived.Test.YtjehkpndchadbaaGreatDoorOj
import Derived.Test.YtjehkpndchadbaaGreatDoorFa
namespace Go.Proofs.YtjehkpndchadbaaGreatDoor
open Go.RowKit Go.Shelf

/-- Two rows of one kind, each with a longer one that grew out of it. -/
structure DD (e : TypeId) (size A : Nat) (s1 v1 s2 v2 : Value) (n j1 j2 : Nat) (x1 y1 x2 y2 : List Value) (w : World) : Prop where
  o1 : w.ownsRow 0 e size s1 n x1
  g1 : w.ownsRow 0 e size v1 (n + j1) (x1 ++ y1)
  o2 : w.ownsRow 0 e size s2 n x2
  g2 : w.ownsRow 0 e size v2 (n + j2) (x2 ++ y2)
  ap : ∀ g, (s1.ownBlock = some g ∨ v1.ownBlock = some g) → s2.ownBlock ≠ some g ∧ v2.ownBlock ≠ some g
  f1 : v1.ownBlock = s1.ownBlock ∨ ∃ g, v1.ownBlock = some g ∧ A ≤ g
  f2 : v2.ownBlock = s2.ownBlock ∨ ∃ g, v2.ownBlock = some g ∧ A ≤ g
theorem DD.swap {e : TypeId} {size A : Nat} {s1 v1 s2 v2 : Value} {n j1 j2 : Nat} {x1 y1 x2 y2 : List Value} {w : World} (h : DD e size A s1 v1 s2 v2 n j1 j2 x1 y1 x2 y2 w) : DD e size A s2 v2 s1 v1 n j2 j1 x2 y2 x1 y1 w :=
  ⟨h.o2, h.g2, h.o1, h.g1, fun g hg => ⟨fun h1 => (hg.elim (h.ap g (.inl h1)).1 (h.ap g (.inl h1)).2), fun h1 => (hg.elim (h.ap g (.inr h1)).1 (h.ap g (.inr h1)).2)⟩, h.f2, h.f1⟩
theorem DD.grown {e : TypeId} {size A : Nat} {s1 v1 s2 v2 : Value} {n j1 j2 : Nat} {x1 y1 x2 y2 : List Value} {w w' : World} {r : Option Nat} (h : DD e size A s1 v1 s2 v2 n j1 j2 x1 y1 x2 y2 w) (hg : w.grownBy w' r)
    (hr : ∀ g, r = some g → s1.ownBlock ≠ some g ∧ v1.ownBlock ≠ some g ∧ s2.ownBlock ≠ some g ∧ v2.ownBlock ≠ some g) : DD e size A s1 v1 s2 v2 n j1 j2 x1 y1 x2 y2 w' :=
  ⟨own_keep h.o1 fun g hg1 => hg.block g (h.o1.lt g hg1).2 fun e1 => (hr g e1.symm).1 hg1,
   own_keep h.g1 fun g hg1 => hg.block g (h.g1.lt g hg1).2 fun e1 => (hr g e1.symm).2.1 hg1,
   own_keep h.o2 fun g hg1 => hg.block g (h.o2.lt g hg1).2 fun e1 => (hr g e1.symm).2.2.1 hg1,
   own_keep h.g2 fun g hg1 => hg.block g (h.g2.lt g hg1).2 fun e1 => (hr g e1.symm).2.2.2 hg1, h.ap, h.f1, h.f2⟩
theorem DD.below {e : TypeId} {size A : Nat} {s1 v1 s2 v2 : Value} {n j1 j2 : Nat} {x1 y1 x2 y2 : List Value} {w w' : World} (h : DD e size A s1 v1 s2 v2 n j1 j2 x1 y1 x2 y2 w) (hb : Below w.heap.size w w') : DD e size A s1 v1 s2 v2 n j1 j2 x1 y1 x2 y2 w' :=
  ⟨own_below h.o1 hb (Nat.le_refl _), own_below h.g1 hb (Nat.le_refl _), own_below h.o2 hb (Nat.le_refl _), own_below h.g2 hb (Nat.le_refl _), h.ap, h.f1, h.f2⟩
/-- One more value behind the first longer row. -/
theorem DD.push {e : TypeId} {size A : Nat} {s1 v1 s2 v2 : Value} {n j1 j2 : Nat} {x1 y1 x2 y2 : List Value} {w : World} (h : DD e size A s1 v1 s2 v2 n j1 j2 x1 y1 x2 y2 w) (t : TypeId) (i : TypeInfo) (z : Value) (bytes : Nat) (ht : Tryz.prog.underlying t = some (.slice e)) (hi : Tryz.prog.info? e = some i) (hz : i.zero = some z) (hsize : i.size = size) (hby : i.bytes = bytes) (hzs : z.cells.size = size) (hpos : 0 < size)
    (ad : Addr) (us : List Value) (hus : us.length = size) (hu : ∀ j u, us[j]? = some u → w.cell? (ad.add j) = some u) (h1 : ∀ u ∈ us, u.oneCell' = true) (hbytes : (n + j1 + 1) * bytes ≤ 140737488355328) (hn : n + j1 + 1 ≤ maxLen) (hA : A ≤ w.heap.size) :
    ∃ v' w', (Builtin.append_ #[t, t] t #[v1, .slice (some ad) 1 1]).run Tryz.prog w = .ok v' w' ∧ DD e size A s1 v' s2 v2 n (j1 + 1) j2 x1 (y1 ++ us) x2 y2 w' ∧ w.grownBy w' v1.ownBlock := by
  obtain ⟨v', w', hrun, h2, h3, h4, h5⟩ := append_keepS w t e t i z size bytes ht hi hz hsize hby hzs hpos v1 (n + j1) _ h.g1 ad us hus hu h1 hbytes hn
  refine ⟨v', w', hrun, ⟨?_, ?_, ?_, ?_, ?_, ?_, h.f2⟩, h3⟩
  · by_cases hv : s1.ownBlock = v1.ownBlock
    · exact h5 s1 n x1 (by omega) hv h.o1
    · exact World.ownsRow.kept h.o1 h3 (.inr hv)
  · rw [← List.append_assoc, ← Nat.add_assoc]; exact h2
  · exact own_keep h.o2 fun g hg => h3.block g (h.o2.lt g hg).2 fun e1 => (h.ap g (.inr e1.symm)).1 hg
  · exact own_keep h.g2 fun g hg => h3.block g (h.g2.lt g hg).2 fun e1 => (h.ap g (.inr e1.symm)).2 hg
  · intro g hg
    rcases hg with hg | hg
    · exact h.ap g (.inl hg)
    · rcases h4 with h4 | ⟨g2, h4, hge⟩
      · exact h.ap g (.inr (h4.symm.trans hg))
      · rw [h4] at hg
        obtain rfl := Option.some.inj hg
        exact ⟨fun e1 => by have := (h.o2.lt g2 e1).2; omega, fun e1 => by have := (h.g2.lt g2 e1).2; omega⟩
  · rcases h4 with h4 | ⟨g2, h4, hge⟩
    · rw [h4]; exact h.f1
    · exact .inr ⟨g2, h4, by omega⟩

/-- All that stands while the lists are written over and grown: since a only the four first rows' blocks have changed. -/
structure SP (w a : World) (va aa vb ab : Value) (n m : Nat) (v1 t1 v2 t2 : Value) (j1 i1 j2 i2 : Nat) (X1 Y1 U1 Z1 X2 Y2 U2 Z2 : List Value) (sN sT : Value) (rN rT : List Value) (wx : World) : Prop where
  bel : Below w.heap.size w wx
  sz : a.heap.size ≤ wx.heap.size
  blk : ∀ g, g < a.heap.size → va.ownBlock ≠ some g → aa.ownBlock ≠ some g → vb.ownBlock ≠ some g → ab.ownBlock ≠ some g → wx.heap[g]? = a.heap[g]?
  N : DD 37 6 a.heap.size va v1 vb v2 n j1 j2 X1 Y1 X2 Y2 wx
  T : DD 9 1 a.heap.size aa t1 ab t2 m i1 i2 U1 Z1 U2 Z2 wx
  ns : wx.ownsRow a.heap.size 23 1 sN rN.length rN
  ts : wx.ownsRow a.heap.size 24 1 sT rT.length rT
theorem SP.below {w a : World} {va aa vb ab : Value} {n m : Nat} {v1 t1 v2 t2 : Value} {j1 i1 j2 i2 : Nat} {X1 Y1 U1 Z1 X2 Y2 U2 Z2 : List Value} {sN sT : Value} {rN rT : List Value} {wx wy : World}
    (h : SP w a va aa vb ab n m v1 t1 v2 t2 j1 i1 j2 i2 X1 Y1 U1 Z1 X2 Y2 U2 Z2 sN sT rN rT wx) (hb : Below wx.heap.size wx wy) : SP w a va aa vb ab n m v1 t1 v2 t2 j1 i1 j2 i2 X1 Y1 U1 Z1 X2 Y2 U2 Z2 sN sT rN rT wy :=
  ⟨h.bel.trans (hb.mono h.bel.size), Nat.le_trans h.sz hb.size, fun g hg h1 h2 h3 h4 => (hb.block g (Nat.lt_of_lt_of_le hg h.sz)).trans (h.blk g hg h1 h2 h3 h4), h.N.below hb, h.T.below hb, own_below h.ns hb (Nat.le_refl _), own_below h.ts hb (Nat.le_refl _)⟩
/-- A node is put behind the first longer row of nodes. -/
theorem SP.pushN {w a : World} {va aa vb ab : Value} {n m : Nat} {v1 t1 v2 t2 : Value} {j1 i1 j2 i2 : Nat} {X1 Y1 U1 Z1 X2 Y2 U2 Z2 : List Value} {sN sT : Value} {rN rT : List Value} {wx : World}
    (h : SP w a va aa vb ab n m v1 t1 v2 t2 j1 i1 j2 i2 X1 Y1 U1 Z1 X2 Y2 U2 Z2 sN sT rN rT wx) (hw : w.heap.size ≤ a.heap.size) (hva : ∀ g, va.ownBlock = some g → w.heap.size ≤ g) (y : Nd) (hn : n + j1 ≤ 1000000000) :
    ∃ v' w', (Builtin.append_ #[23, 23] 23 #[v1, .slice (some ⟨wx.heap.size, 0, none⟩) 1 1]).run Tryz.prog (wx.alloc (.cells (nC y).toArray 37)) = .ok v' w' ∧ SP w a va aa vb ab n m v' t1 v2 t2 (j1 + 1) i1 j2 i2 X1 (Y1 ++ nC y) U1 Z1 X2 Y2 U2 Z2 sN sT rN rT w' := by
  have hb := alloc_below wx (.cells (nC y).toArray 37)
  have hbl : Bl 37 (wx.alloc (.cells (nC y).toArray 37)) wx.heap.size (nC y) := alloc_bl _ _ _
  have h' := h.below hb
  generalize wx.alloc (.cells (nC y).toArray 37) = W at *
  obtain ⟨i, hi, hz, hsize, hby⟩ := info_parts infoN
  obtain ⟨v', w', hrun, hD, hg⟩ := h'.N.push 23 i _ 64 Tryz.underlying23 hi hz hsize hby rfl (by decide) ⟨wx.heap.size, 0, none⟩ (nC y) rfl (fun j u hu => by
    obtain ⟨hlt, e⟩ := List.getElem?_eq_some_iff.1 hu
    rw [Addr.add_mid, Nat.zero_add, ← e]
    exact hbl.cell j hlt) (by rw [← nCs_one]; exact nCs_oneC _) (by omega) (by unfold maxLen; omega) h'.sz
  have hlo : ∀ g, v1.ownBlock = some g → w.heap.size ≤ g := fun g hg1 => by
    rcases h'.N.f1 with e | ⟨g2, e, hge⟩
    · exact hva g (e.symm.trans hg1)
    · rw [e] at hg1
      obtain rfl := Option.some.inj hg1
      omega
  refine ⟨v', w', hrun, ⟨h'.bel.grown hg h'.bel.size hlo, Nat.le_trans h'.sz hg.size, fun g hga h1 h2 h3 h4 => ?_, hD, h'.T.grown hg (fun g hg1 => ⟨kinds_apart h'.N.g1 h'.T.o1 (by decide) hg1, kinds_apart h'.N.g1 h'.T.g1 (by decide) hg1, kinds_apart h'.N.g1 h'.T.o2 (by decide) hg1, kinds_apart h'.N.g1 h'.T.g2 (by decide) hg1⟩), own_keep h'.ns fun g hg1 => hg.block g (h'.ns.lt g hg1).2 (fun e1 => kinds_apart h'.N.g1 h'.ns (by decide) e1.symm hg1), own_keep h'.ts fun g hg1 => hg.block g (h'.ts.lt g hg1).2 (fun e1 => kinds_apart h'.N.g1 h'.ts (by decide) e1.symm hg1)⟩⟩
  rw [hg.block g (Nat.lt_of_lt_of_le hga h'.sz) (fun e1 => ?_)]
  · exact h'.blk g hga h1 h2 h3 h4
  · rcases h'.N.f1 with e | ⟨g2, e, hge⟩
    · exact h1 (e.symm.trans e1.symm)
    · rw [e] at e1
      obtain rfl := Option.some.inj e1
      omega

end Go.Proofs.YtjehkpndchadbaaGreatDoor
