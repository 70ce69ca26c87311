import Derived.Test.YtcdcfgkgighmhaaGreatDoorRk
import Derived.Laws.IdiomStrings
namespace Go.Proofs.YtcdcfgkgighmhaaGreatDoor
open Go.RowKit Go.Shelf

theorem escF_rg {t : List UInt8} {p q : Nat} {r : Int} (h : escF t p = .ok r q) : 0 ≤ r ∧ r < 1114112 := by
  unfold escF at h
  split at h
  · simp only at h
    split at h
    · unfold pointF at h
      split at h
      · cases h
      · rename_i hi q1 e1
        have a1 := unitF_rg 4 0 _ hi q1 e1
        have a2 : hi < 65536 := by have := a1.2.1; omega
        split at h
        · cases h
          omega
        · rename_i hn
          unfold pairF at h
          split at h
          · cases h
          · split at h
            · cases h
            · rename_i lo q3 e3
              have b1 := unitF_rg 4 0 _ lo _ e3
              have b2 := awF_second (b1.2.2 (by omega))
              cases h
              omega
    · split at h
      · cases h; omega
      · split at h
        · rename_i r' er
          cases h
          unfold escL at er
          split at er
          · cases er
          · cases er
            have : (escB.getD (Lib.indexByte escS (t.getD (p + 1) 0)).toNat 0).toNat < 256 := UInt8.toNat_lt _
            omega
        · cases h
  · cases h

theorem chrF_rg {t : List UInt8} {p q : Nat} {r : Int} (h : chrF t p = .ok r q) : 0 ≤ r ∧ r < 1114112 := by
  unfold chrF at h
  simp only at h
  split at h
  · cases h
  · split at h
    · exact escF_rg h
    · split at h
      · cases h
      · split at h
        · cases h
        · cases h
          have := Lib.decodeL_rune (t.drop p)
          omega

theorem conv_any (w : World) (a : Option Addr) (c : Nat) (l : List UInt8) (h : Rd w a l) : (convert 91 9 (.slice a l.length c)).run Tryz.prog w = .ok (.string ⟨l.toArray⟩) w := by
  rcases h with h | ⟨g, off, rfl, hg, hc⟩
  · subst h
    rw [run_convert_bytes_string w 91 9 5 a ([] : List UInt8).length c Tryz.underlying91 Tryz.underlying5 Tryz.underlying9]
    cases a <;> simp [Conv.bytesToString, loadCells] <;> rfl
  · refine run_convert_bytes_back w 91 9 5 ⟨g, off, none⟩ c l Tryz.underlying91 Tryz.underlying5 Tryz.underlying9 ?_
    intro j hj
    rw [Addr.add_mid, hc j hj, List.getD_eq_getElem?_getD, List.getElem?_eq_getElem hj]
    rfl

theorem rowF_rd {w : World} {base : Nat} {v : Value} {l : List UInt8} (h : w.ownsRowF base 5 1 v l.length (l.map B)) : ∃ a c, v = .slice a l.length c ∧ Rd w a l := by
  rcases h.2 with ⟨hv, hn⟩ | ⟨g, cap, cur, fz, hv, hb, hg, hf, hc1, hc2, hs, ht⟩
  · have : l = [] := List.eq_nil_of_length_eq_zero hn
    subst this
    exact ⟨none, 0, hv, .inl rfl⟩
  · refine ⟨_, cap, hv, .inr ⟨g, 0, rfl, (Array.getElem?_eq_some_iff.1 hg).1, fun j hj => ?_⟩⟩
    have := h.cells (g := g) (by rw [hv]; rfl) j (B (l.getD j 0)) (by simp [List.getD_eq_getElem?_getD, hj])
    rw [Addr.add_mid] at this
    exact this

theorem rowF_type {w : World} {base n size : Nat} {e : TypeId} {v : Value} {xs : List Value} (h : w.ownsRowF base e size v n xs) {g : Nat} (hg : v.ownBlock = some g) : ∃ cur fz, w.heap[g]? = some (.cells cur e fz) := by
  rcases h.2 with ⟨h', _⟩ | ⟨g', cap', cur, fz, h', _, hg', _⟩
  · subst h'; simp [Value.ownBlock] at hg
  · subst h'
    simp only [Value.ownBlock, Option.some.injEq] at hg
    subst hg
    exact ⟨cur, fz, hg'⟩
theorem rowF_ne {w : World} {base n size : Nat} {e t : TypeId} {v : Value} {xs vs : List Value} {b : Nat} (h : w.ownsRowF base e size v n xs) (h2 : Bl t w b vs) (hne : e ≠ t) : v.ownBlock ≠ some b := by
  intro hg
  obtain ⟨cur, fz, hc⟩ := rowF_type h hg
  unfold Bl at h2
  rw [hc] at h2
  simp only [Option.some.injEq, Obj.cells.injEq] at h2
  exact hne h2.2.1
theorem rowF_keep {w w' : World} {base n size : Nat} {e : TypeId} {v : Value} {xs : List Value} (h : w.ownsRowF base e size v n xs) (hk : ∀ g, v.ownBlock = some g → w'.heap[g]? = w.heap[g]?) : w'.ownsRowF base e size v n xs := by
  refine ⟨h.1, ?_⟩
  rcases h.2 with h' | ⟨g', cap', cur, fz, h', h1, hg', h2⟩
  · exact .inl h'
  · exact .inr ⟨g', cap', cur, fz, h', h1, by rw [hk g' (by rw [h']; rfl)]; exact hg', h2⟩
theorem rowF_but {w w' : World} {base n size : Nat} {e t : TypeId} {v : Value} {xs vs : List Value} {b : Nat} (h : w.ownsRowF base e size v n xs) (h2 : Bl t w b vs) (hne : e ≠ t) (hb : But w w' b) : w'.ownsRowF base e size v n xs :=
  rowF_keep h fun g hg => hb.block g (h.lt g hg).2 fun e => rowF_ne h h2 hne (by rw [hg, e])

theorem U8.but {w w' : World} {b : Nat} {t : List UInt8} {p : Nat} {x : X5} {c q : Int} (h : U8 w) (hr : RB w b t p x c q) (hb : But w w' b) : U8 w' := by
  have c0 := hr.c0
  have h3 := h.1 0 (by omega)
  have h4 := (h.2 0 (by omega)).1
  have n3 : 2 ≠ b := fun e => by rw [← e, h3] at c0; cases c0
  have n4 : 3 ≠ b := fun e => by rw [← e] at c0; rw [Nat.mul_zero] at h4; rw [h4] at c0; cases c0
  exact ⟨fun c hc => cell_but (h.1 c hc) fun hg => hb.block _ hg n3, fun i hi => ⟨cell_but (h.2 i hi).1 fun hg => hb.block _ hg n4, cell_but (h.2 i hi).2 fun hg => hb.block _ hg n4⟩⟩

theorem infoU8 : (Tryz.prog.info? 5).map (fun i => (i.zero, i.size, i.bytes)) = some (some (.int .u8 0), 1, 1) := by kernel_rfl

theorem runeCells_B (r : Int) : Lib.runeCells r = (Lib.encodeRune r).map B := by
  unfold Lib.runeCells Lib.encodeRune
  rw [List.map_map]
  refine List.map_congr_left fun z hz => ?_
  have := Lib.encodeRuneZ_byte r z hz
  simp only [Function.comp_apply, B]
  congr 1
  have h1 : z.toNat.toUInt8.toNat = z.toNat := by
    have h2 : z.toNat.toUInt8.toNat = z.toNat % 256 := by simp
    rw [h2]
    omega
  rw [h1]
  omega
theorem encodeRune_len (r : Int) : 1 ≤ (Lib.encodeRune r).length ∧ (Lib.encodeRune r).length ≤ 4 := by
  unfold Lib.encodeRune
  rw [List.length_map]
  exact Lib.encodeRuneZ_length r

theorem appendRune_any (base : Nat) (v : Value) (l : List UInt8) (r : Int) (w : World) (hr0 : 0 ≤ r) (hr1 : r < 1114112) (h : w.ownsRowF base 5 1 v l.length (l.map B)) (hl : l.length ≤ 10000000000) (hb : base ≤ w.heap.size) :
    Calls Tryz.prog 77 #[v, .int .i32 r] w fun e w' => ∃ v', e = .returned v' ∧ w'.ownsRowF base 5 1 v' (l ++ Lib.encodeRune r).length ((l ++ Lib.encodeRune r).map B) ∧ (∀ k, k < w.heap.size → some k ≠ v.ownBlock → w'.heap[k]? = w.heap[k]?) ∧ w.heap.size ≤ w'.heap.size ∧ w'.os = w.os ∧ w'.tape = w.tape ∧ w'.output = w.output := by
  have C := Any.utf8_AppendRune_row Tryz.laysApp infoU8 base v l.length (l.map B) r (by omega) (by omega) w h (by omega) hb
  refine C.mono ?_
  rintro e w' ⟨v', he, ho, o, hg⟩
  have hs := hg.size
  rw [alloc_size] at hs
  refine ⟨v', he, ?_, fun k hk hne => ?_, by omega, hg.os, hg.tape, hg.output⟩
  · rw [List.map_append, ← runeCells_B, List.length_append, ← Lib.runeCells_length]
    exact ho
  · rw [hg.block k (by rw [alloc_size]; omega) hne]
    exact (alloc_below w o).block k hk

end Go.Proofs.YtcdcfgkgighmhaaGreatDoor
