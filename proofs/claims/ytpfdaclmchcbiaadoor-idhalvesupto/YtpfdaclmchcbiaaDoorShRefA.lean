import Derived.Test.YtpfdaclmchcbiaaDoorShZa
import Derived.Deep.DeepAppendWide
import Derived.OwnWalk
import Derived.Laws.AppendOwnNone
namespace Go.Proofs.YtpfdaclmchcbiaaDoor.Sha
open Go.RowKit
set_option maxRecDepth 100000

/-- The document's tables. -/
def K2 : List Int := [1116352408, 1899447441, 3049323471, 3921009573, 961987163,
  1508970993, 2453635748, 2870763221, 3624381080, 310598401,
  607225278, 1426881987, 1925078388, 2162078206, 2614888103,
  3248222580, 3835390401, 4022224774, 264347078, 604807628,
  770255983, 1249150122, 1555081692, 1996064986, 2554220882,
  2821834349, 2952996808, 3210313671, 3336571891, 3584528711,
  113926993, 338241895, 666307205, 773529912, 1294757372,
  1396182291, 1695183700, 1986661051, 2177026350, 2456956037,
  2730485921, 2820302411, 3259730800, 3345764771, 3516065817,
  3600352804, 4094571909, 275423344, 430227734, 506948616,
  659060556, 883997877, 958139571, 1322822218, 1537002063,
  1747873779, 1955562222, 2024104815, 2227730452, 2361852424,
  2428436474, 2756734187, 3204031479, 3329325298]
def K5 : List Int := [4794697086780616226, 8158064640168781261, 13096744586834688815, 16840607885511220156, 4131703408338449720,
  6480981068601479193, 10538285296894168987, 12329834152419229976, 15566598209576043074, 1334009975649890238,
  2608012711638119052, 6128411473006802146, 8268148722764581231, 9286055187155687089, 11230858885718282805,
  13951009754708518548, 16472876342353939154, 17275323862435702243, 1135362057144423861, 2597628984639134821,
  3308224258029322869, 5365058923640841347, 6679025012923562964, 8573033837759648693, 10970295158949994411,
  12119686244451234320, 12683024718118986047, 13788192230050041572, 14330467153632333762, 15395433587784984357,
  489312712824947311, 1452737877330783856, 2861767655752347644, 3322285676063803686, 5560940570517711597,
  5996557281743188959, 7280758554555802590, 8532644243296465576, 9350256976987008742, 10552545826968843579,
  11727347734174303076, 12113106623233404929, 14000437183269869457, 14369950271660146224, 15101387698204529176,
  15463397548674623760, 17586052441742319658, 1182934255886127544, 1847814050463011016, 2177327727835720531,
  2830643537854262169, 3796741975233480872, 4115178125766777443, 5681478168544905931, 6601373596472566643,
  7507060721942968483, 8399075790359081724, 8693463985226723168, 9568029438360202098, 10144078919501101548,
  10430055236837252648, 11840083180663258601, 13761210420658862357, 14299343276471374635, 14566680578165727644,
  15097957966210449927, 16922976911328602910, 17689382322260857208, 500013540394364858, 748580250866718886,
  1242879168328830382, 1977374033974150939, 2944078676154940804, 3659926193048069267, 4368137639120453308,
  4836135668995329356, 5532061633213252278, 6448918945643986474, 6902733635092675308, 7801388544844847127]
def S2 : List Int := [1779033703, 3144134277, 1013904242, 2773480762, 1359893119,
  2600822924, 528734635, 1541459225]
def S3 : List Int := [14680500436340154072, 7105036623409894663, 10473403895298186519, 1526699215303891257, 7436329637833083697,
  10282925794625328401, 15784041429090275239, 5167115440072839076]
def S5 : List Int := [7640891576956012808, 13503953896175478587, 4354685564936845355, 11912009170470909681, 5840696475078001361,
  11170449401992604703, 2270897969802886507, 6620516959819538809]

/-- They stand in the world. -/
structure Rt (w : World) : Prop where
  k2 : ∀ i, i < 64 → w.cell? ⟨4, i, none⟩ = some (U (K2.getD i 0))
  k5 : ∀ i, i < 80 → w.cell? ⟨5, i, none⟩ = some (V (K5.getD i 0))
  s2 : ∀ i, i < 8 → w.cell? ⟨3, i, none⟩ = some (U (S2.getD i 0))
  s3 : ∀ i, i < 8 → w.cell? ⟨0, i, none⟩ = some (V (S3.getD i 0))
  s5 : ∀ i, i < 8 → w.cell? ⟨1, i, none⟩ = some (V (S5.getD i 0))

theorem Rt.below {w w' : World} {n : Nat} (h : Rt w) (hb : Below n w w') (hn : w.heap.size ≤ n) : Rt w' :=
  ⟨fun i hi => cell_but (h.k2 i hi) fun hg => hb.block _ (by omega), fun i hi => cell_but (h.k5 i hi) fun hg => hb.block _ (by omega), fun i hi => cell_but (h.s2 i hi) fun hg => hb.block _ (by omega), fun i hi => cell_but (h.s3 i hi) fun hg => hb.block _ (by omega), fun i hi => cell_but (h.s5 i hi) fun hg => hb.block _ (by omega)⟩
theorem Rt.drewN {w : World} (h : Rt w) (q : Nat) : Rt (w.drewN q) := ⟨h.k2, h.k5, h.s2, h.s3, h.s5⟩

theorem orc32 (a b : Int) : bits .or .u32 a b = bits .or .u32 b a := by
  show IntKind.u32.wrap ((BitVec.ofInt 32 a ||| BitVec.ofInt 32 b).toNat : Int) = IntKind.u32.wrap ((BitVec.ofInt 32 b ||| BitVec.ofInt 32 a).toNat : Int)
  rw [BitVec.or_comm]
theorem rturn32 (x : Int) (n : Nat) (h1 : 1 ≤ n) (h2 : n ≤ 31) (w : World) :
    Calls Tryd.prog 27 #[.int .u32 x, .int .i64 (n : Int)] w fun e w' => e = .returned (.int .u32 (rt n x)) ∧ w' = w := by
  have e1 : IntKind.u64.wrap ((32 : Int) - (n : Int)) = ((32 - n : Nat) : Int) := by rw [IntKind.wrap_u64]; omega
  have e2 : IntKind.u64.wrap (n : Int) = (n : Int) := by rw [IntKind.wrap_u64]; omega
  have Hr : Hid (True → rt n x = bits .or .u32 (x / 2 ^ n) (x * 2 ^ (32 - n) % 4294967296)) := fun _ => orc32 _ _
  go_enter Tryd.func27, Tryd.ntmps27
  go_wp2
  go_ret
  rw [Hr.out trivial]
  refine ⟨?_, rfl⟩
  first | rfl | (simp only [IntKind.wrap_u64]; rfl)
theorem q32_2 (x : Int) (w : World) : Calls Tryd.prog 27 #[.int .u32 x, .int .i64 2] w fun e w' => e = .returned (.int .u32 (rt 2 x)) ∧ w' = w := rturn32 x 2 (by decide) (by decide) w
theorem q32_6 (x : Int) (w : World) : Calls Tryd.prog 27 #[.int .u32 x, .int .i64 6] w fun e w' => e = .returned (.int .u32 (rt 6 x)) ∧ w' = w := rturn32 x 6 (by decide) (by decide) w
theorem q32_7 (x : Int) (w : World) : Calls Tryd.prog 27 #[.int .u32 x, .int .i64 7] w fun e w' => e = .returned (.int .u32 (rt 7 x)) ∧ w' = w := rturn32 x 7 (by decide) (by decide) w
theorem q32_11 (x : Int) (w : World) : Calls Tryd.prog 27 #[.int .u32 x, .int .i64 11] w fun e w' => e = .returned (.int .u32 (rt 11 x)) ∧ w' = w := rturn32 x 11 (by decide) (by decide) w
theorem q32_13 (x : Int) (w : World) : Calls Tryd.prog 27 #[.int .u32 x, .int .i64 13] w fun e w' => e = .returned (.int .u32 (rt 13 x)) ∧ w' = w := rturn32 x 13 (by decide) (by decide) w
theorem q32_17 (x : Int) (w : World) : Calls Tryd.prog 27 #[.int .u32 x, .int .i64 17] w fun e w' => e = .returned (.int .u32 (rt 17 x)) ∧ w' = w := rturn32 x 17 (by decide) (by decide) w
theorem q32_18 (x : Int) (w : World) : Calls Tryd.prog 27 #[.int .u32 x, .int .i64 18] w fun e w' => e = .returned (.int .u32 (rt 18 x)) ∧ w' = w := rturn32 x 18 (by decide) (by decide) w
theorem q32_19 (x : Int) (w : World) : Calls Tryd.prog 27 #[.int .u32 x, .int .i64 19] w fun e w' => e = .returned (.int .u32 (rt 19 x)) ∧ w' = w := rturn32 x 19 (by decide) (by decide) w
theorem q32_22 (x : Int) (w : World) : Calls Tryd.prog 27 #[.int .u32 x, .int .i64 22] w fun e w' => e = .returned (.int .u32 (rt 22 x)) ∧ w' = w := rturn32 x 22 (by decide) (by decide) w
theorem q32_25 (x : Int) (w : World) : Calls Tryd.prog 27 #[.int .u32 x, .int .i64 25] w fun e w' => e = .returned (.int .u32 (rt 25 x)) ∧ w' = w := rturn32 x 25 (by decide) (by decide) w

theorem orc64 (a b : Int) : bits .or .u64 a b = bits .or .u64 b a := by
  show IntKind.u64.wrap ((BitVec.ofInt 64 a ||| BitVec.ofInt 64 b).toNat : Int) = IntKind.u64.wrap ((BitVec.ofInt 64 b ||| BitVec.ofInt 64 a).toNat : Int)
  rw [BitVec.or_comm]
theorem rturn64 (x : Int) (n : Nat) (h1 : 1 ≤ n) (h2 : n ≤ 63) (w : World) :
    Calls Tryd.prog 28 #[.int .u64 x, .int .i64 (n : Int)] w fun e w' => e = .returned (.int .u64 (ru n x)) ∧ w' = w := by
  have e1 : IntKind.u64.wrap ((64 : Int) - (n : Int)) = ((64 - n : Nat) : Int) := by rw [IntKind.wrap_u64]; omega
  have e2 : IntKind.u64.wrap (n : Int) = (n : Int) := by rw [IntKind.wrap_u64]; omega
  have Hr : Hid (True → ru n x = bits .or .u64 (x / 2 ^ n) (x * 2 ^ (64 - n) % 18446744073709551616)) := fun _ => orc64 _ _
  go_enter Tryd.func28, Tryd.ntmps28
  go_wp2
  go_ret
  rw [Hr.out trivial]
  refine ⟨?_, rfl⟩
  first | rfl | (simp only [IntKind.wrap_u64]; rfl)
theorem q64_1 (x : Int) (w : World) : Calls Tryd.prog 28 #[.int .u64 x, .int .i64 1] w fun e w' => e = .returned (.int .u64 (ru 1 x)) ∧ w' = w := rturn64 x 1 (by decide) (by decide) w
theorem q64_8 (x : Int) (w : World) : Calls Tryd.prog 28 #[.int .u64 x, .int .i64 8] w fun e w' => e = .returned (.int .u64 (ru 8 x)) ∧ w' = w := rturn64 x 8 (by decide) (by decide) w
theorem q64_14 (x : Int) (w : World) : Calls Tryd.prog 28 #[.int .u64 x, .int .i64 14] w fun e w' => e = .returned (.int .u64 (ru 14 x)) ∧ w' = w := rturn64 x 14 (by decide) (by decide) w
theorem q64_18 (x : Int) (w : World) : Calls Tryd.prog 28 #[.int .u64 x, .int .i64 18] w fun e w' => e = .returned (.int .u64 (ru 18 x)) ∧ w' = w := rturn64 x 18 (by decide) (by decide) w
theorem q64_19 (x : Int) (w : World) : Calls Tryd.prog 28 #[.int .u64 x, .int .i64 19] w fun e w' => e = .returned (.int .u64 (ru 19 x)) ∧ w' = w := rturn64 x 19 (by decide) (by decide) w
theorem q64_28 (x : Int) (w : World) : Calls Tryd.prog 28 #[.int .u64 x, .int .i64 28] w fun e w' => e = .returned (.int .u64 (ru 28 x)) ∧ w' = w := rturn64 x 28 (by decide) (by decide) w
theorem q64_34 (x : Int) (w : World) : Calls Tryd.prog 28 #[.int .u64 x, .int .i64 34] w fun e w' => e = .returned (.int .u64 (ru 34 x)) ∧ w' = w := rturn64 x 34 (by decide) (by decide) w
theorem q64_39 (x : Int) (w : World) : Calls Tryd.prog 28 #[.int .u64 x, .int .i64 39] w fun e w' => e = .returned (.int .u64 (ru 39 x)) ∧ w' = w := rturn64 x 39 (by decide) (by decide) w
theorem q64_41 (x : Int) (w : World) : Calls Tryd.prog 28 #[.int .u64 x, .int .i64 41] w fun e w' => e = .returned (.int .u64 (ru 41 x)) ∧ w' = w := rturn64 x 41 (by decide) (by decide) w
theorem q64_61 (x : Int) (w : World) : Calls Tryd.prog 28 #[.int .u64 x, .int .i64 61] w fun e w' => e = .returned (.int .u64 (ru 61 x)) ∧ w' = w := rturn64 x 61 (by decide) (by decide) w

/-- append of bytes that can be read, nil ones too, behind a row of one's own. -/
theorem append_rd {w : World} {ops : Array Oper} {rest : List Oper} {o : Oper} {a : Act} {Q : Exit → Act → World → Prop} (hgd : o.guard = none) (s x : Operand)
    (ho : o.op = .call { callee := .builtin .append, args := #[s, x], argTypes := #[29, 29] })
    (base : Nat) (i : TypeInfo) (hi : Tryd.prog.info? 5 = some i) (hz : i.zero = some (.int .u8 0)) (hsize : i.size = 1) (hby : i.bytes = 1)
    (v : Value) (n : Nat) (xs : List UInt8) (hs : a.eval s = v) (hown : w.ownsRow base 5 1 v n (xs.map B))
    (ao : Option Addr) (m c : Nat) (l : List UInt8) (hx : a.eval x = .slice ao m c) (hl : l.length = m) (hao : ao = none → m = 0 ∧ c = 0) (hrd : Rd w ao l)
    (hbytes : n + m ≤ 100000000000) (hbase : base ≤ w.heap.size)
    (h : ∀ v' w', w'.ownsRow base 5 1 v' (n + m) ((xs ++ l).map B) → w.grownBy w' v.ownBlock → wpList Tryd.prog ops Q rest (a.put o.dst v') w') : wpList Tryd.prog ops Q (o :: rest) a w := by
  cases ao with
  | none =>
    obtain ⟨rfl, rfl⟩ := hao rfl
    obtain rfl := List.eq_nil_of_length_eq_zero hl
    refine wpList_append_own_none hgd s x 29 ho base 5 i 1 Tryd.underlying29 hi v n (xs.map B) hs hown hx ?_
    exact h v w (by simpa using hown) (World.grownBy.refl _ _)
  | some ad =>
    refine wpList_append_own_wide w hgd s x 29 ho base 5 i (.int .u8 0) 1 1 Tryd.underlying29 hi hz hsize hby rfl (by decide) v n (xs.map B) hs hown ad m c (l.map B) hx (by simpa using hl) ?_ (oneB l) (by unfold maxLen; omega) (by omega) hbase ?_
    · intro j u hu
      rcases hrd with h0 | ⟨b, off, e, hb, hc⟩
      · subst h0; simp at hu
      · cases e
        have hj : j < l.length := by
          have := (List.getElem?_eq_some_iff.1 hu).1
          simpa using this
        rw [Addr.add_lit, hc j hj]
        simp [List.getElem?_map, List.getElem?_eq_getElem hj] at hu
        rw [← hu, List.getD_eq_getElem?_getD, List.getElem?_eq_getElem hj, Option.getD_some]
    · intro v' w' h1 h2 _
      exact h v' w' (by rw [List.map_append]; exact h1) h2

/-- A slice over a row of one's own: it can be read. -/
theorem own_rd {w : World} {base n : Nat} {v : Value} {l : List UInt8} (h : w.ownsRow base 5 1 v n (l.map B)) : ∃ ao cap, v = .slice ao n cap ∧ n = l.length ∧ n ≤ cap ∧ cap ≤ maxLen ∧ (ao = none → n = 0 ∧ cap = 0) ∧ Rd w ao l ∧ (∀ x, ao = some x → base ≤ x.block) := by
  have hl : l.length = n := by have := h.1; simpa using this
  rcases h.2 with ⟨rfl, rfl⟩ | ⟨g, cap, cur, rfl, hg, hh, hn, hc, hs, ht⟩
  · exact ⟨none, 0, rfl, hl.symm, Nat.le_refl _, Nat.zero_le _, fun _ => ⟨rfl, rfl⟩, .inl (List.eq_nil_of_length_eq_zero hl), fun _ e => by cases e⟩
  · refine ⟨_, cap, rfl, hl.symm, hn, hc, (fun e => by cases e), .inr ⟨g, 0, rfl, (h.lt g rfl).2, fun j hj => ?_⟩, fun x e => by cases e; exact hg⟩
    rw [Nat.zero_add, h.cellAt j (by omega)]
    simp [hj]

end Go.Proofs.YtpfdaclmchcbiaaDoor.Sha