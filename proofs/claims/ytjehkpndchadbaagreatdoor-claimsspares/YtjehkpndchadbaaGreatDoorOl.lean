import Derived.Test.YtjehkpndchadbaaGreatDoorOk
namespace Go.Proofs.YtjehkpndchadbaaGreatDoor
open Go.RowKit Go.Shelf

theorem SP.swap {w a : World} {va aa vb ab : Value} {n m : Nat} {v1 t1 v2 t2 : Value} {j1 i1 j2 i2 : Nat} {X1 Y1 U1 Z1 X2 Y2 U2 Z2 : List Value} {sN sT : Value} {rN rT : List Value} {wx : World} (h : SP w a va aa vb ab n m v1 t1 v2 t2 j1 i1 j2 i2 X1 Y1 U1 Z1 X2 Y2 U2 Z2 sN sT rN rT wx) : SP w a vb ab va aa n m v2 t2 v1 t1 j2 i2 j1 i1 X2 Y2 U2 Z2 X1 Y1 U1 Z1 sN sT rN rT wx :=
  ⟨h.bel, h.sz, fun g hg h1 h2 h3 h4 => h.blk g hg h3 h4 h1 h2, h.N.swap, h.T.swap, h.ns, h.ts⟩
/-- A text is put behind the first longer row of texts. -/
theorem SP.pushT {w a : World} {va aa vb ab : Value} {n m : Nat} {v1 t1 v2 t2 : Value} {j1 i1 j2 i2 : Nat} {X1 Y1 U1 Z1 X2 Y2 U2 Z2 : List Value} {sN sT : Value} {rN rT : List Value} {wx : World} (h : SP w a va aa vb ab n m v1 t1 v2 t2 j1 i1 j2 i2 X1 Y1 U1 Z1 X2 Y2 U2 Z2 sN sT rN rT wx) (hw : w.heap.size ≤ a.heap.size) (haa : ∀ g, aa.ownBlock = some g → w.heap.size ≤ g) (y : List UInt8) (hn : m + i1 ≤ 1000000000) :
    ∃ v' w', (Builtin.append_ #[24, 24] 24 #[t1, .slice (some ⟨wx.heap.size, 0, none⟩) 1 1]).run Tryz.prog (wx.alloc (.cells #[.string ⟨y.toArray⟩] 9)) = .ok v' w' ∧ SP w a va aa vb ab n m v1 v' v2 t2 j1 (i1 + 1) j2 i2 X1 Y1 U1 (Z1 ++ [tV y]) X2 Y2 U2 Z2 sN sT rN rT w' := by
  have hb := alloc_below wx (.cells #[.string ⟨y.toArray⟩] 9)
  have hbl : Bl 9 (wx.alloc (.cells #[.string ⟨y.toArray⟩] 9)) wx.heap.size [tV y] := alloc_bl wx [tV y] _
  have h' := h.below hb
  generalize wx.alloc (.cells #[.string ⟨y.toArray⟩] 9) = W at *
  obtain ⟨i, hi, hz, hsize, hby⟩ := info_parts infoTx
  obtain ⟨v', w', hrun, hD, hg⟩ := h'.T.push 24 i _ 16 Tryz.underlying24 hi hz hsize hby rfl (by decide) ⟨wx.heap.size, 0, none⟩ [tV y] rfl (fun j u hu => by
    obtain ⟨hlt, e⟩ := List.getElem?_eq_some_iff.1 hu
    rw [Addr.add_mid, Nat.zero_add, ← e]
    exact hbl.cell j hlt) (fun u hu => by simp at hu; subst hu; rfl) (by omega) (by unfold maxLen; omega) h'.sz
  have hlo : ∀ g, t1.ownBlock = some g → w.heap.size ≤ g := fun g hg1 => by
    rcases h'.T.f1 with e | ⟨g2, e, hge⟩
    · exact haa g (e.symm.trans hg1)
    · rw [e] at hg1
      obtain rfl := Option.some.inj hg1
      omega
  refine ⟨v', w', hrun, ⟨h'.bel.grown hg h'.bel.size hlo, Nat.le_trans h'.sz hg.size, fun g hga h1 h2 h3 h4 => ?_, h'.N.grown hg (fun g hg1 => ⟨kinds_apart h'.T.g1 h'.N.o1 (by decide) hg1, kinds_apart h'.T.g1 h'.N.g1 (by decide) hg1, kinds_apart h'.T.g1 h'.N.o2 (by decide) hg1, kinds_apart h'.T.g1 h'.N.g2 (by decide) hg1⟩), hD, own_keep h'.ns fun g hg1 => hg.block g (h'.ns.lt g hg1).2 (fun e1 => kinds_apart h'.T.g1 h'.ns (by decide) e1.symm hg1), own_keep h'.ts fun g hg1 => hg.block g (h'.ts.lt g hg1).2 (fun e1 => kinds_apart h'.T.g1 h'.ts (by decide) e1.symm hg1)⟩⟩
  rw [hg.block g (Nat.lt_of_lt_of_le hga h'.sz) (fun e1 => ?_)]
  · exact h'.blk g hga h1 h2 h3 h4
  · rcases h'.T.f1 with e | ⟨g2, e, hge⟩
    · exact h2 (e.symm.trans e1.symm)
    · rw [e] at e1
      obtain rfl := Option.some.inj e1
      omega
theorem DD.put {e : TypeId} {size A : Nat} {s1 s2 v2 : Value} {n j2 : Nat} {x1 x2 y2 x : List Value} {w w' : World} (h : DD e size A s1 s1 s2 v2 n 0 j2 x1 [] x2 y2 w) (hg : w.grownBy w' s1.ownBlock) (ho : w'.ownsRow 0 e size s1 n x) : DD e size A s1 s1 s2 v2 n 0 j2 x [] x2 y2 w' :=
  ⟨ho, by rw [List.append_nil]; exact ho, own_keep h.o2 fun g hg1 => hg.block g (h.o2.lt g hg1).2 fun e1 => (h.ap g (.inl e1.symm)).1 hg1, own_keep h.g2 fun g hg1 => hg.block g (h.g2.lt g hg1).2 fun e1 => (h.ap g (.inl e1.symm)).2 hg1, h.ap, h.f1, h.f2⟩
/-- The first row of nodes is written over. -/
theorem SP.putN {w a : World} {va aa vb ab : Value} {n m : Nat} {t1 v2 t2 : Value} {i1 j2 i2 : Nat} {X1 U1 Z1 X2 Y2 U2 Z2 : List Value} {sN sT : Value} {rN rT : List Value} {wx w' : World} {x : List Value} (h : SP w a va aa vb ab n m va t1 v2 t2 0 i1 j2 i2 X1 [] U1 Z1 X2 Y2 U2 Z2 sN sT rN rT wx) (hva : ∀ g, va.ownBlock = some g → w.heap.size ≤ g) (hg : wx.grownBy w' va.ownBlock) (ho : w'.ownsRow 0 37 6 va n x) : SP w a va aa vb ab n m va t1 v2 t2 0 i1 j2 i2 x [] U1 Z1 X2 Y2 U2 Z2 sN sT rN rT w' := by
  refine ⟨h.bel.grown hg h.bel.size hva, Nat.le_trans h.sz hg.size, fun g hga h1 h2 h3 h4 => ?_, h.N.put hg ho, h.T.grown hg (fun g hg1 => ⟨kinds_apart h.N.o1 h.T.o1 (by decide) hg1, kinds_apart h.N.o1 h.T.g1 (by decide) hg1, kinds_apart h.N.o1 h.T.o2 (by decide) hg1, kinds_apart h.N.o1 h.T.g2 (by decide) hg1⟩), own_keep h.ns fun g hg1 => hg.block g (h.ns.lt g hg1).2 (fun e1 => kinds_apart h.N.o1 h.ns (by decide) e1.symm hg1), own_keep h.ts fun g hg1 => hg.block g (h.ts.lt g hg1).2 (fun e1 => kinds_apart h.N.o1 h.ts (by decide) e1.symm hg1)⟩
  rw [hg.block g (Nat.lt_of_lt_of_le hga h.sz) (fun e1 => h1 e1.symm)]
  exact h.blk g hga h1 h2 h3 h4
/-- The first row of texts is written over. -/
theorem SP.putT {w a : World} {va aa vb ab : Value} {n m : Nat} {v1 v2 t2 : Value} {j1 j2 i2 : Nat} {X1 Y1 U1 X2 Y2 U2 Z2 : List Value} {sN sT : Value} {rN rT : List Value} {wx w' : World} {x : List Value} (h : SP w a va aa vb ab n m v1 aa v2 t2 j1 0 j2 i2 X1 Y1 U1 [] X2 Y2 U2 Z2 sN sT rN rT wx) (haa : ∀ g, aa.ownBlock = some g → w.heap.size ≤ g) (hg : wx.grownBy w' aa.ownBlock) (ho : w'.ownsRow 0 9 1 aa m x) : SP w a va aa vb ab n m v1 aa v2 t2 j1 0 j2 i2 X1 Y1 x [] X2 Y2 U2 Z2 sN sT rN rT w' := by
  refine ⟨h.bel.grown hg h.bel.size haa, Nat.le_trans h.sz hg.size, fun g hga h1 h2 h3 h4 => ?_, h.N.grown hg (fun g hg1 => ⟨kinds_apart h.T.o1 h.N.o1 (by decide) hg1, kinds_apart h.T.o1 h.N.g1 (by decide) hg1, kinds_apart h.T.o1 h.N.o2 (by decide) hg1, kinds_apart h.T.o1 h.N.g2 (by decide) hg1⟩), h.T.put hg ho, own_keep h.ns fun g hg1 => hg.block g (h.ns.lt g hg1).2 (fun e1 => kinds_apart h.T.o1 h.ns (by decide) e1.symm hg1), own_keep h.ts fun g hg1 => hg.block g (h.ts.lt g hg1).2 (fun e1 => kinds_apart h.T.o1 h.ts (by decide) e1.symm hg1)⟩
  rw [hg.block g (Nat.lt_of_lt_of_le hga h.sz) (fun e1 => h2 e1.symm)]
  exact h.blk g hga h1 h2 h3 h4
theorem infoNs : (Tryz.prog.info? 23).map (fun i => (i.zero, i.size, i.bytes)) = some (some (.slice none 0 0), 1, 24) := by kernel_rfl
theorem infoTs : (Tryz.prog.info? 24).map (fun i => (i.zero, i.size, i.bytes)) = some (some (.slice none 0 0), 1, 24) := by kernel_rfl
theorem own_upS {w : World} {b n size : Nat} {e : TypeId} {v : Value} {xs : List Value} (h : w.ownsRow 0 e size v n xs) (hb : ∀ g, v.ownBlock = some g → b ≤ g) : w.ownsRow b e size v n xs :=
  ⟨h.1, h.2.elim .inl fun ⟨g, cap, cur, hv, _, r⟩ => .inr ⟨g, cap, cur, hv, hb g (by rw [hv]; rfl), r⟩⟩
theorem own_dnS {w : World} {b n size : Nat} {e : TypeId} {v : Value} {xs : List Value} (h : w.ownsRow b e size v n xs) : w.ownsRow 0 e size v n xs :=
  ⟨h.1, h.2.elim .inl fun ⟨g, cap, cur, hv, _, r⟩ => .inr ⟨g, cap, cur, hv, Nat.zero_le _, r⟩⟩
/-- A slice is put behind the row of slices. -/
theorem SP.addN {w a : World} {va aa vb ab : Value} {n m : Nat} {v1 t1 v2 t2 : Value} {j1 i1 j2 i2 : Nat} {X1 Y1 U1 Z1 X2 Y2 U2 Z2 : List Value} {sN sT : Value} {rN rT : List Value} {wx : World} (h : SP w a va aa vb ab n m v1 t1 v2 t2 j1 i1 j2 i2 X1 Y1 U1 Z1 X2 Y2 U2 Z2 sN sT rN rT wx) (hw : w.heap.size ≤ a.heap.size) (ao : Option Addr) (l cp : Nat) (hn : rN.length ≤ 1000) :
    ∃ v' w', (Builtin.append_ #[38, 38] 38 #[sN, .slice (some ⟨wx.heap.size, 0, none⟩) 1 1]).run Tryz.prog (wx.alloc (.cells #[.slice ao l cp] 23)) = .ok v' w' ∧ SP w a va aa vb ab n m v1 t1 v2 t2 j1 i1 j2 i2 X1 Y1 U1 Z1 X2 Y2 U2 Z2 v' sT (rN ++ [.slice ao l cp]) rT w' := by
  have hb := alloc_below wx (.cells #[.slice ao l cp] 23)
  have hbl : Bl 23 (wx.alloc (.cells #[.slice ao l cp] 23)) wx.heap.size [.slice ao l cp] := alloc_bl wx [.slice ao l cp] _
  have h' := h.below hb
  have hsz := h.sz
  have hsb := hb.size
  generalize wx.alloc (.cells #[.slice ao l cp] 23) = W at *
  obtain ⟨i, hi, hz, hsize, hby⟩ := info_parts infoNs
  obtain ⟨v', w', hrun, h2, h3, h4, _⟩ := append_keepS W 38 23 38 i _ 1 24 Tryz.underlying38 hi hz hsize hby rfl (by decide) sN rN.length rN (own_dnS h'.ns) ⟨wx.heap.size, 0, none⟩ [.slice ao l cp] rfl (fun j u hu => by
    obtain ⟨hlt, e⟩ := List.getElem?_eq_some_iff.1 hu
    rw [Addr.add_mid, Nat.zero_add, ← e]
    exact hbl.cell j hlt) (fun u hu => by simp at hu; subst hu; rfl) (by omega) (by unfold maxLen; omega)
  have hlo : ∀ g, sN.ownBlock = some g → a.heap.size ≤ g := fun g hg1 => (h'.ns.lt g hg1).1
  have hup : ∀ g, v'.ownBlock = some g → a.heap.size ≤ g := fun g hg1 => by
    rcases h4 with e | ⟨g2, e, hge⟩
    · exact hlo g (e.symm.trans hg1)
    · rw [e] at hg1
      obtain rfl := Option.some.inj hg1
      omega
  refine ⟨v', w', hrun, ⟨h'.bel.grown h3 h'.bel.size (fun g hg1 => Nat.le_trans hw (hlo g hg1)), Nat.le_trans h'.sz h3.size, fun g hga h1 h2 h3' h4' => ?_, h'.N.grown h3 (fun g hg1 => ⟨kinds_apart h'.ns h'.N.o1 (by decide) hg1, kinds_apart h'.ns h'.N.g1 (by decide) hg1, kinds_apart h'.ns h'.N.o2 (by decide) hg1, kinds_apart h'.ns h'.N.g2 (by decide) hg1⟩), h'.T.grown h3 (fun g hg1 => ⟨kinds_apart h'.ns h'.T.o1 (by decide) hg1, kinds_apart h'.ns h'.T.g1 (by decide) hg1, kinds_apart h'.ns h'.T.o2 (by decide) hg1, kinds_apart h'.ns h'.T.g2 (by decide) hg1⟩), own_upS (by rw [List.length_append]; exact h2) hup, own_keep h'.ts fun g hg1 => h3.block g (h'.ts.lt g hg1).2 (fun e1 => kinds_apart h'.ns h'.ts (by decide) e1.symm hg1)⟩⟩
  rw [h3.block g (Nat.lt_of_lt_of_le hga h'.sz) (fun e1 => ?_)]
  · exact h'.blk g hga h1 h2 h3' h4'
  · have := hlo g e1.symm
    omega
/-- A slice is put behind the row of slices. -/
theorem SP.addT {w a : World} {va aa vb ab : Value} {n m : Nat} {v1 t1 v2 t2 : Value} {j1 i1 j2 i2 : Nat} {X1 Y1 U1 Z1 X2 Y2 U2 Z2 : List Value} {sN sT : Value} {rN rT : List Value} {wx : World} (h : SP w a va aa vb ab n m v1 t1 v2 t2 j1 i1 j2 i2 X1 Y1 U1 Z1 X2 Y2 U2 Z2 sN sT rN rT wx) (hw : w.heap.size ≤ a.heap.size) (ao : Option Addr) (l cp : Nat) (hn : rT.length ≤ 1000) :
    ∃ v' w', (Builtin.append_ #[39, 39] 39 #[sT, .slice (some ⟨wx.heap.size, 0, none⟩) 1 1]).run Tryz.prog (wx.alloc (.cells #[.slice ao l cp] 24)) = .ok v' w' ∧ SP w a va aa vb ab n m v1 t1 v2 t2 j1 i1 j2 i2 X1 Y1 U1 Z1 X2 Y2 U2 Z2 sN v' rN (rT ++ [.slice ao l cp]) w' := by
  have hb := alloc_below wx (.cells #[.slice ao l cp] 24)
  have hbl : Bl 24 (wx.alloc (.cells #[.slice ao l cp] 24)) wx.heap.size [.slice ao l cp] := alloc_bl wx [.slice ao l cp] _
  have h' := h.below hb
  have hsz := h.sz
  have hsb := hb.size
  generalize wx.alloc (.cells #[.slice ao l cp] 24) = W at *
  obtain ⟨i, hi, hz, hsize, hby⟩ := info_parts infoTs
  obtain ⟨v', w', hrun, h2, h3, h4, _⟩ := append_keepS W 39 24 39 i _ 1 24 Tryz.underlying39 hi hz hsize hby rfl (by decide) sT rT.length rT (own_dnS h'.ts) ⟨wx.heap.size, 0, none⟩ [.slice ao l cp] rfl (fun j u hu => by
    obtain ⟨hlt, e⟩ := List.getElem?_eq_some_iff.1 hu
    rw [Addr.add_mid, Nat.zero_add, ← e]
    exact hbl.cell j hlt) (fun u hu => by simp at hu; subst hu; rfl) (by omega) (by unfold maxLen; omega)
  have hlo : ∀ g, sT.ownBlock = some g → a.heap.size ≤ g := fun g hg1 => (h'.ts.lt g hg1).1
  have hup : ∀ g, v'.ownBlock = some g → a.heap.size ≤ g := fun g hg1 => by
    rcases h4 with e | ⟨g2, e, hge⟩
    · exact hlo g (e.symm.trans hg1)
    · rw [e] at hg1
      obtain rfl := Option.some.inj hg1
      omega
  refine ⟨v', w', hrun, ⟨h'.bel.grown h3 h'.bel.size (fun g hg1 => Nat.le_trans hw (hlo g hg1)), Nat.le_trans h'.sz h3.size, fun g hga h1 h2 h3' h4' => ?_, h'.N.grown h3 (fun g hg1 => ⟨kinds_apart h'.ts h'.N.o1 (by decide) hg1, kinds_apart h'.ts h'.N.g1 (by decide) hg1, kinds_apart h'.ts h'.N.o2 (by decide) hg1, kinds_apart h'.ts h'.N.g2 (by decide) hg1⟩), h'.T.grown h3 (fun g hg1 => ⟨kinds_apart h'.ts h'.T.o1 (by decide) hg1, kinds_apart h'.ts h'.T.g1 (by decide) hg1, kinds_apart h'.ts h'.T.o2 (by decide) hg1, kinds_apart h'.ts h'.T.g2 (by decide) hg1⟩), own_keep h'.ns fun g hg1 => h3.block g (h'.ns.lt g hg1).2 (fun e1 => kinds_apart h'.ts h'.ns (by decide) e1.symm hg1), own_upS (by rw [List.length_append]; exact h2) hup⟩⟩
  rw [h3.block g (Nat.lt_of_lt_of_le hga h'.sz) (fun e1 => ?_)]
  · exact h'.blk g hga h1 h2 h3' h4'
  · have := hlo g e1.symm
    omega

end Go.Proofs.YtjehkpndchadbaaGreatDoor
