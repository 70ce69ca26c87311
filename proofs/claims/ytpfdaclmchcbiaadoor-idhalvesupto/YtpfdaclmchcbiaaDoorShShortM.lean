import Derived.Test.YtpfdaclmchcbiaaDoorShRefF
import Derived.Deep.RegionHeldLaw
namespace Go.Proofs.YtpfdaclmchcbiaaDoor.Sha
open Go.RowKit
set_option maxRecDepth 100000

/-- A block taken in, by the document. -/
def mixR (H : List Int) (bl : List UInt8) : List Int := List.zipWith (fun x y => (x + y) % 4294967296) H (l8 (rnds (ext (wds bl 16) 48) (r8 H) 64))
def chR (all : List UInt8) : Nat → List Int
  | 0 => S2
  | n + 1 => mixR (chR all n) ((all.drop (64 * n)).take 64)
/-- The schedule's first i words. -/
def lw (bl : List UInt8) (i : Nat) : List Int := if i ≤ 16 then wds bl i else ext (wds bl 16) (i - 16)
theorem lw_length (bl : List UInt8) (i : Nat) : (lw bl i).length = i := by
  unfold lw
  split
  · exact wds_length _ _
  · rw [ext_length, wds_length]; omega
theorem lw_succ (bl : List UInt8) (i : Nat) (h : 16 ≤ i) : lw bl (i + 1) = lw bl i ++ [nx (lw bl i)] := by
  unfold lw
  rw [if_neg (by omega)]
  by_cases h1 : i = 16
  · subst h1; rfl
  · rw [if_neg (by omega), show i + 1 - 16 = (i - 16) + 1 by omega, ext]
theorem lw_low (bl : List UInt8) (i : Nat) (h : i < 16) : lw bl (i + 1) = lw bl i ++ [(be (pc bl 4 i) : Int)] := by
  unfold lw
  rw [if_pos (by omega), if_pos (by omega), wds_succ]
  rfl
theorem lw_full (bl : List UInt8) : lw bl 64 = ext (wds bl 16) 48 := rfl
theorem mixR_length (H : List Int) (bl : List UInt8) (h : H.length = 8) : (mixR H bl).length = 8 := by
  unfold mixR; rw [List.length_zipWith, l8_length]; simp [h]
theorem chR_length (all : List UInt8) (n : Nat) : (chR all n).length = 8 := by
  induction n with
  | zero => rfl
  | succ n ih => exact mixR_length _ _ ih

theorem or4 (x0 x1 x2 x3 : Nat) (h0 : x0 < 256) (h1 : x1 < 256) (h2 : x2 < 256) (h3 : x3 < 256) :
    bits .or .u32 (bits .or .u32 (bits .or .u32 ((x0 : Int) * 16777216) ((x1 : Int) * 65536)) ((x2 : Int) * 256)) (x3 : Int) = ((((x0 * 256 + x1) * 256 + x2) * 256 + x3 : Nat) : Int) := by
  have e0 : ((x0 : Int) * 16777216) = ((x0 * 16777216 : Nat) : Int) := by omega
  have e1 : ((x1 : Int) * 65536) = ((x1 * 65536 : Nat) : Int) := by omega
  have e2 : ((x2 : Int) * 256) = ((x2 * 256 : Nat) : Int) := by omega
  rw [e0, e1, e2, u32_or_nat (x0 * 16777216) (x1 * 65536) (by omega) (by omega), nat_join 24 (x0 * 16777216) (x1 * 65536) (by omega) (by omega),
    u32_or_nat (x0 * 16777216 + x1 * 65536) (x2 * 256) (by omega) (by omega), nat_join 16 (x0 * 16777216 + x1 * 65536) (x2 * 256) (by omega) (by omega),
    u32_or_nat (x0 * 16777216 + x1 * 65536 + x2 * 256) x3 (by omega) (by omega), nat_join 8 (x0 * 16777216 + x1 * 65536 + x2 * 256) x3 (by omega) (by omega)]
  exact congrArg (fun n : Nat => (n : Int)) (by omega)

theorem kn_K2 (k : Nat) (h : k < 64) : kn k = K2.getD k 0 := by
  have : ∀ i : Fin 64, kn i.val = K2.getD i.val 0 := by decide +kernel
  exact this ⟨k, h⟩

theorem chR_bd (all : List UInt8) (n : Nat) : ∀ k, 0 ≤ (chR all n).getD k 0 ∧ (chR all n).getD k 0 < 4294967296 := by
  cases n with
  | zero =>
    intro k
    by_cases h : k < 8
    · have : ∀ i : Fin 8, 0 ≤ S2.getD i.val 0 ∧ S2.getD i.val 0 < 4294967296 := by decide +kernel
      exact this ⟨k, h⟩
    · have e : (chR all 0).getD k 0 = 0 := by
        rw [List.getD_eq_getElem?_getD, List.getElem?_eq_none (by rw [chR_length]; omega)]
        rfl
      rw [e]
      omega
  | succ n =>
    intro k
    show 0 ≤ (mixR _ _).getD k 0 ∧ (mixR _ _).getD k 0 < 4294967296
    unfold mixR
    rw [List.getD_eq_getElem?_getD, List.getElem?_zipWith]
    cases (chR all n)[k]? <;> cases (l8 _)[k]? <;> simp <;> omega

theorem and255 (N : Nat) (h : N < 4294967296) : bits .and .u32 (N : Int) 255 = ((N % 256 : Nat) : Int) := by
  have e : (255 : Int) = ((255 : Nat) : Int) := rfl
  rw [e, u32_and_nat N 255 h (by omega), nat_mask8]
theorem tobe4 (N : Nat) (h : N < 4294967296) : tobe 4 N = [UInt8.ofNat (N / 16777216), UInt8.ofNat (N / 65536 % 256), UInt8.ofNat (N / 256 % 256), UInt8.ofNat (N % 256)] := by
  have e : N / 16777216 % 256 = N / 16777216 := by omega
  show [UInt8.ofNat (N / 256 ^ 3 % 256), UInt8.ofNat (N / 256 ^ 2 % 256), UInt8.ofNat (N / 256 ^ 1 % 256), UInt8.ofNat (N / 256 ^ 0 % 256)] = _
  rw [show (256 : Nat) ^ 3 = 16777216 from rfl, show (256 : Nat) ^ 2 = 65536 from rfl, show (256 : Nat) ^ 1 = 256 from rfl, show (256 : Nat) ^ 0 = 1 from rfl, e, Nat.div_one]
theorem four_rd (w : World) (t : TypeId) (y0 y1 y2 y3 : Nat) (h0 : y0 < 256) (h1 : y1 < 256) (h2 : y2 < 256) (h3 : y3 < 256) :
    Rd (w.alloc (.cells #[.int .u8 (y0 : Int), .int .u8 (y1 : Int), .int .u8 (y2 : Int), .int .u8 (y3 : Int)] t)) (some ⟨w.heap.size, 0, none⟩) [UInt8.ofNat y0, UInt8.ofNat y1, UInt8.ofNat y2, UInt8.ofNat y3] := by
  obtain ⟨t', ht'⟩ := alloc_cl w [.int .u8 (y0 : Int), .int .u8 (y1 : Int), .int .u8 (y2 : Int), .int .u8 (y3 : Int)] t
  have hb : ∀ y : Nat, y < 256 → B (UInt8.ofNat y) = .int .u8 (y : Int) := fun y hy => by
    unfold B
    rw [UInt8.toNat_ofNat', Nat.mod_eq_of_lt (show y < 2 ^ 8 by omega)]
  have hcl : Cl (w.alloc (.cells #[.int .u8 (y0 : Int), .int .u8 (y1 : Int), .int .u8 (y2 : Int), .int .u8 (y3 : Int)] t)) w.heap.size (([UInt8.ofNat y0, UInt8.ofNat y1, UInt8.ofNat y2, UInt8.ofNat y3] ++ []).map B) := by
    simp only [List.append_nil, List.map, hb y0 h0, hb y1 h1, hb y2 h2, hb y3 h3]
    exact ⟨t', ht'⟩
  exact cl_head hcl
theorem own_base {w : World} {b1 b2 n : Nat} {e : TypeId} {v : Value} {xs : List Value} (h : w.ownsRow b1 e 1 v n xs) (hb : b2 ≤ b1) : w.ownsRow b2 e 1 v n xs := by
  refine ⟨h.1, ?_⟩
  rcases h.2 with h0 | ⟨g, cap, cur, e, hg, r⟩
  · exact .inl h0
  · exact .inr ⟨g, cap, cur, e, by omega, r⟩

theorem cl_of_eq {w : World} {b : Nat} {vs vs' : List Value} (h : Cl w b vs) (e : vs = vs') : Cl w b vs' := e ▸ h
theorem set8 {w : World} {b : Nat} {vs : List Value} (h : Cl w b vs) (hl : vs.length = 8) (v0 v1 v2 v3 v4 v5 v6 v7 : Value) :
    Cl ((((((((w.setCell ⟨b, 0, none⟩ v0).setCell ⟨b, 1, none⟩ v1).setCell ⟨b, 2, none⟩ v2).setCell ⟨b, 3, none⟩ v3).setCell ⟨b, 4, none⟩ v4).setCell ⟨b, 5, none⟩ v5).setCell ⟨b, 6, none⟩ v6).setCell ⟨b, 7, none⟩ v7) b [v0, v1, v2, v3, v4, v5, v6, v7] := by
  have h1 := (((((((h.set 0 v0).set 1 v1).set 2 v2).set 3 v3).set 4 v4).set 5 v5).set 6 v6).set 7 v7
  rcases vs with _ | ⟨c0, _ | ⟨c1, _ | ⟨c2, _ | ⟨c3, _ | ⟨c4, _ | ⟨c5, _ | ⟨c6, _ | ⟨c7, _ | ⟨c8, r⟩⟩⟩⟩⟩⟩⟩⟩⟩ <;> simp at hl
  exact h1

/-- A piece of four bytes. -/
theorem pc4 (bl : List UInt8) (i : Nat) (h : 4 * i + 4 ≤ bl.length) : be (pc bl 4 i) = (((bl.getD (4 * i) 0).toNat * 256 + (bl.getD (4 * i + 1) 0).toNat) * 256 + (bl.getD (4 * i + 2) 0).toNat) * 256 + (bl.getD (4 * i + 3) 0).toNat := by
  have e : pc bl 4 i = [bl.getD (4 * i) 0, bl.getD (4 * i + 1) 0, bl.getD (4 * i + 2) 0, bl.getD (4 * i + 3) 0] := by
    apply List.ext_getElem
    · rw [pc_length _ _ _ h]; rfl
    · intro j h1 h2
      have hj : j < 4 := h2
      rw [pc_get bl 4 i j h h1 (by omega)]
      have hq : j = 0 ∨ j = 1 ∨ j = 2 ∨ j = 3 := by omega
      rcases hq with rfl | rfl | rfl | rfl
      · show bl[4 * i + 0] = bl.getD (4 * i) 0
        rw [List.getD_eq_getElem?_getD, List.getElem?_eq_getElem (show 4 * i < bl.length by omega)]; rfl
      · show bl[4 * i + 1] = bl.getD (4 * i + 1) 0
        rw [List.getD_eq_getElem?_getD, List.getElem?_eq_getElem (show 4 * i + 1 < bl.length by omega)]; rfl
      · show bl[4 * i + 2] = bl.getD (4 * i + 2) 0
        rw [List.getD_eq_getElem?_getD, List.getElem?_eq_getElem (show 4 * i + 2 < bl.length by omega)]; rfl
      · show bl[4 * i + 3] = bl.getD (4 * i + 3) 0
        rw [List.getD_eq_getElem?_getD, List.getElem?_eq_getElem (show 4 * i + 3 < bl.length by omega)]; rfl
  rw [e]
  simp [be]

/-- append onto a row of one's own, as one step of a region that draws. -/
theorem step_append_own {P : Program} {ops : Array Oper} {o : Oper} {a : Act} {w : World} {K : Act → World → Prop} {Q : Exit → Act → World → Prop} {E : Prop} (hg : o.guard = none) (s x : Operand) (t : TypeId)
    (ho : o.op = .call { callee := .builtin .append, args := #[s, x], argTypes := #[t, t] })
    (base : Nat) (e : TypeId) (i : TypeInfo) (z : Value) (size bytes : Nat) (ht : P.underlying t = some (.slice e)) (hi : P.info? e = some i) (hz : i.zero = some z)
    (hsize : i.size = size) (hby : i.bytes = bytes) (hzs : z.cells.size = size) (hsz : 0 < size)
    (v : Value) (n : Nat) (xs : List Value) (hs : a.eval s = v) (hown : w.ownsRow base e size v n xs)
    (ad : Addr) (m c : Nat) (news : List Value) (hx : a.eval x = .slice (some ad) m c) (hl : news.length = m * size) (hnews : ∀ j u, news[j]? = some u → w.cell? (ad.add j) = some u) (h1 : ∀ u ∈ news, u.oneCell' = true)
    (h63 : n + m ≤ maxLen) (hbytes : ((n + m) + (n + m) / 4 + 192) * bytes ≤ 281474976710656) (hbase : base ≤ w.heap.size)
    (h : ∀ v' w', w'.ownsRow base e size v' (n + m) (xs ++ news) → w.grownBy w' v.ownBlock → (v' = .slice none 0 0 ↔ v = .slice none 0 0 ∧ m = 0) → K (a.put o.dst v') w') :
    if Region.wanted o (yielded ops a.tmps) = true then Oper.wp P o a w K Q else E := by
  have hw : Region.wanted o (yielded ops a.tmps) = true := by simp [Region.wanted, hg]
  rw [if_pos hw]
  exact wp_append_own_wide w s x t ho base e i z size bytes ht hi hz hsize hby hzs hsz v n xs hs hown ad m c news hx hl hnews h1 h63 hbytes hbase h


end Go.Proofs.YtpfdaclmchcbiaaDoor.Sha