import Derived.Test.YtdhfjhdlimmjhaaGreatDoorShZa
import Derived.Deep.DeepAppendWide
import Derived.OwnWalk
import Derived.Laws.AppendOwnNone
import Derived.Deep.RegionHeldLaw
namespace Go.Proofs.YtdhfjhdlimmjhaaGreatDoor.Sha
open Go.RowKit
set_option maxRecDepth 100000

def K2 : List Int := [1116352408, 1899447441, 3049323471, 3921009573, 961987163,
  1508970993, 2453635748, 2870763221, 3624381080, 310598401,
  607225278, 1426881987, 1925078388, 2162078206, 2614888103,
  3248222580, 3835390401, 4022224774, 264347078, 604807628,
  770255983, 1249150122, 1555081692, 1996064986, 2554220882,
  2821834349, 2952996808, 3210313671, 3336571891, 3584528711,
  113926993, 338241895, 666307205, 773529912, 1294757372,
  1396182291, 1695183700, 1986661051, 2177026350, 2456956037,
  2730485921, 2820302411, 3259730800, 3345764771, 3516065817,
  3600352804, 4094571909, 275423344, 430227734, 506948616,
  659060556, 883997877, 958139571, 1322822218, 1537002063,
  1747873779, 1955562222, 2024104815, 2227730452, 2361852424,
  2428436474, 2756734187, 3204031479, 3329325298]
def K5 : List Int := [4794697086780616226, 8158064640168781261, 13096744586834688815, 16840607885511220156, 4131703408338449720,
  6480981068601479193, 10538285296894168987, 12329834152419229976, 15566598209576043074, 1334009975649890238,
  2608012711638119052, 6128411473006802146, 8268148722764581231, 9286055187155687089, 11230858885718282805,
  13951009754708518548, 16472876342353939154, 17275323862435702243, 1135362057144423861, 2597628984639134821,
  3308224258029322869, 5365058923640841347, 6679025012923562964, 8573033837759648693, 10970295158949994411,
  12119686244451234320, 12683024718118986047, 13788192230050041572, 14330467153632333762, 15395433587784984357,
  489312712824947311, 1452737877330783856, 2861767655752347644, 3322285676063803686, 5560940570517711597,
  5996557281743188959, 7280758554555802590, 8532644243296465576, 9350256976987008742, 10552545826968843579,
  11727347734174303076, 12113106623233404929, 14000437183269869457, 14369950271660146224, 15101387698204529176,
  15463397548674623760, 17586052441742319658, 1182934255886127544, 1847814050463011016, 2177327727835720531,
  2830643537854262169, 3796741975233480872, 4115178125766777443, 5681478168544905931, 6601373596472566643,
  7507060721942968483, 8399075790359081724, 8693463985226723168, 9568029438360202098, 10144078919501101548,
  10430055236837252648, 11840083180663258601, 13761210420658862357, 14299343276471374635, 14566680578165727644,
  15097957966210449927, 16922976911328602910, 17689382322260857208, 500013540394364858, 748580250866718886,
  1242879168328830382, 1977374033974150939, 2944078676154940804, 3659926193048069267, 4368137639120453308,
  4836135668995329356, 5532061633213252278, 6448918945643986474, 6902733635092675308, 7801388544844847127]
def S2 : List Int := [1779033703, 3144134277, 1013904242, 2773480762, 1359893119,
  2600822924, 528734635, 1541459225]
def S3 : List Int := [14680500436340154072, 7105036623409894663, 10473403895298186519, 1526699215303891257, 7436329637833083697,
  10282925794625328401, 15784041429090275239, 5167115440072839076]
def S5 : List Int := [7640891576956012808, 13503953896175478587, 4354685564936845355, 11912009170470909681, 5840696475078001361,
  11170449401992604703, 2270897969802886507, 6620516959819538809]

structure Rt (w : World) : Prop where
  k2 : ∀ i, i < 64 → w.cell? ⟨5, i, none⟩ = some (U (K2.getD i 0))
  k5 : ∀ i, i < 80 → w.cell? ⟨6, i, none⟩ = some (V (K5.getD i 0))
  s2 : ∀ i, i < 8 → w.cell? ⟨4, i, none⟩ = some (U (S2.getD i 0))
  s3 : ∀ i, i < 8 → w.cell? ⟨0, i, none⟩ = some (V (S3.getD i 0))
  s5 : ∀ i, i < 8 → w.cell? ⟨1, i, none⟩ = some (V (S5.getD i 0))

theorem Rt.below {w w' : World} {n : Nat} (h : Rt w) (hb : Below n w w') (hn : w.heap.size ≤ n) : Rt w' :=
  ⟨fun i hi => cell_but (h.k2 i hi) fun hg => hb.block _ (by omega), fun i hi => cell_but (h.k5 i hi) fun hg => hb.block _ (by omega), fun i hi => cell_but (h.s2 i hi) fun hg => hb.block _ (by omega), fun i hi => cell_but (h.s3 i hi) fun hg => hb.block _ (by omega), fun i hi => cell_but (h.s5 i hi) fun hg => hb.block _ (by omega)⟩
theorem Rt.drewN {w : World} (h : Rt w) (q : Nat) : Rt (w.drewN q) := ⟨h.k2, h.k5, h.s2, h.s3, h.s5⟩

theorem orc32 (a b : Int) : bits .or .u32 a b = bits .or .u32 b a := by
  show IntKind.u32.wrap ((BitVec.ofInt 32 a ||| BitVec.ofInt 32 b).toNat : Int) = IntKind.u32.wrap ((BitVec.ofInt 32 b ||| BitVec.ofInt 32 a).toNat : Int)
  rw [BitVec.or_comm]
theorem rturn32 (x : Int) (n : Nat) (h1 : 1 ≤ n) (h2 : n ≤ 31) (w : World) :
    Calls Tryz.prog 73 #[.int .u32 x, .int .i64 (n : Int)] w fun e w' => e = .returned (.int .u32 (rt n x)) ∧ w' = w := by
  have e1 : IntKind.u64.wrap ((32 : Int) - (n : Int)) = ((32 - n : Nat) : Int) := by rw [IntKind.wrap_u64]; omega
  have e2 : IntKind.u64.wrap (n : Int) = (n : Int) := by rw [IntKind.wrap_u64]; omega
  have Hr : Hid (True → rt n x = bits .or .u32 (x / 2 ^ n) (x * 2 ^ (32 - n) % 4294967296)) := fun _ => orc32 _ _
  go_enter Tryz.func73, Tryz.ntmps73
  go_wp2
  go_ret
  rw [Hr.out trivial]
  refine ⟨?_, rfl⟩
  first | rfl | (simp only [IntKind.wrap_u64]; rfl)
theorem q32_2 (x : Int) (w : World) : Calls Tryz.prog 73 #[.int .u32 x, .int .i64 2] w fun e w' => e = .returned (.int .u32 (rt 2 x)) ∧ w' = w := rturn32 x 2 (by decide) (by decide) w
theorem q32_6 (x : Int) (w : World) : Calls Tryz.prog 73 #[.int .u32 x, .int .i64 6] w fun e w' => e = .returned (.int .u32 (rt 6 x)) ∧ w' = w := rturn32 x 6 (by decide) (by decide) w
theorem q32_7 (x : Int) (w : World) : Calls Tryz.prog 73 #[.int .u32 x, .int .i64 7] w fun e w' => e = .returned (.int .u32 (rt 7 x)) ∧ w' = w := rturn32 x 7 (by decide) (by decide) w
theorem q32_11 (x : Int) (w : World) : Calls Tryz.prog 73 #[.int .u32 x, .int .i64 11] w fun e w' => e = .returned (.int .u32 (rt 11 x)) ∧ w' = w := rturn32 x 11 (by decide) (by decide) w
theorem q32_13 (x : Int) (w : World) : Calls Tryz.prog 73 #[.int .u32 x, .int .i64 13] w fun e w' => e = .returned (.int .u32 (rt 13 x)) ∧ w' = w := rturn32 x 13 (by decide) (by decide) w
theorem q32_17 (x : Int) (w : World) : Calls Tryz.prog 73 #[.int .u32 x, .int .i64 17] w fun e w' => e = .returned (.int .u32 (rt 17 x)) ∧ w' = w := rturn32 x 17 (by decide) (by decide) w
theorem q32_18 (x : Int) (w : World) : Calls Tryz.prog 73 #[.int .u32 x, .int .i64 18] w fun e w' => e = .returned (.int .u32 (rt 18 x)) ∧ w' = w := rturn32 x 18 (by decide) (by decide) w
theorem q32_19 (x : Int) (w : World) : Calls Tryz.prog 73 #[.int .u32 x, .int .i64 19] w fun e w' => e = .returned (.int .u32 (rt 19 x)) ∧ w' = w := rturn32 x 19 (by decide) (by decide) w
theorem q32_22 (x : Int) (w : World) : Calls Tryz.prog 73 #[.int .u32 x, .int .i64 22] w fun e w' => e = .returned (.int .u32 (rt 22 x)) ∧ w' = w := rturn32 x 22 (by decide) (by decide) w
theorem q32_25 (x : Int) (w : World) : Calls Tryz.prog 73 #[.int .u32 x, .int .i64 25] w fun e w' => e = .returned (.int .u32 (rt 25 x)) ∧ w' = w := rturn32 x 25 (by decide) (by decide) w

theorem orc64 (a b : Int) : bits .or .u64 a b = bits .or .u64 b a := by
  show IntKind.u64.wrap ((BitVec.ofInt 64 a ||| BitVec.ofInt 64 b).toNat : Int) = IntKind.u64.wrap ((BitVec.ofInt 64 b ||| BitVec.ofInt 64 a).toNat : Int)
  rw [BitVec.or_comm]
theorem rturn64 (x : Int) (n : Nat) (h1 : 1 ≤ n) (h2 : n ≤ 63) (w : World) :
    Calls Tryz.prog 74 #[.int .u64 x, .int .i64 (n : Int)] w fun e w' => e = .returned (.int .u64 (ru n x)) ∧ w' = w := by
  have e1 : IntKind.u64.wrap ((64 : Int) - (n : Int)) = ((64 - n : Nat) : Int) := by rw [IntKind.wrap_u64]; omega
  have e2 : IntKind.u64.wrap (n : Int) = (n : Int) := by rw [IntKind.wrap_u64]; omega
  have Hr : Hid (True → ru n x = bits .or .u64 (x / 2 ^ n) (x * 2 ^ (64 - n) % 18446744073709551616)) := fun _ => orc64 _ _
  go_enter Tryz.func74, Tryz.ntmps74
  go_wp2
  go_ret
  rw [Hr.out trivial]
  refine ⟨?_, rfl⟩
  first | rfl | (simp only [IntKind.wrap_u64]; rfl)
theorem q64_1 (x : Int) (w : World) : Calls Tryz.prog 74 #[.int .u64 x, .int .i64 1] w fun e w' => e = .returned (.int .u64 (ru 1 x)) ∧ w' = w := rturn64 x 1 (by decide) (by decide) w
theorem q64_8 (x : Int) (w : World) : Calls Tryz.prog 74 #[.int .u64 x, .int .i64 8] w fun e w' => e = .returned (.int .u64 (ru 8 x)) ∧ w' = w := rturn64 x 8 (by decide) (by decide) w
theorem q64_14 (x : Int) (w : World) : Calls Tryz.prog 74 #[.int .u64 x, .int .i64 14] w fun e w' => e = .returned (.int .u64 (ru 14 x)) ∧ w' = w := rturn64 x 14 (by decide) (by decide) w
theorem q64_18 (x : Int) (w : World) : Calls Tryz.prog 74 #[.int .u64 x, .int .i64 18] w fun e w' => e = .returned (.int .u64 (ru 18 x)) ∧ w' = w := rturn64 x 18 (by decide) (by decide) w
theorem q64_19 (x : Int) (w : World) : Calls Tryz.prog 74 #[.int .u64 x, .int .i64 19] w fun e w' => e = .returned (.int .u64 (ru 19 x)) ∧ w' = w := rturn64 x 19 (by decide) (by decide) w
theorem q64_28 (x : Int) (w : World) : Calls Tryz.prog 74 #[.int .u64 x, .int .i64 28] w fun e w' => e = .returned (.int .u64 (ru 28 x)) ∧ w' = w := rturn64 x 28 (by decide) (by decide) w
theorem q64_34 (x : Int) (w : World) : Calls Tryz.prog 74 #[.int .u64 x, .int .i64 34] w fun e w' => e = .returned (.int .u64 (ru 34 x)) ∧ w' = w := rturn64 x 34 (by decide) (by decide) w
theorem q64_39 (x : Int) (w : World) : Calls Tryz.prog 74 #[.int .u64 x, .int .i64 39] w fun e w' => e = .returned (.int .u64 (ru 39 x)) ∧ w' = w := rturn64 x 39 (by decide) (by decide) w
theorem q64_41 (x : Int) (w : World) : Calls Tryz.prog 74 #[.int .u64 x, .int .i64 41] w fun e w' => e = .returned (.int .u64 (ru 41 x)) ∧ w' = w := rturn64 x 41 (by decide) (by decide) w
theorem q64_61 (x : Int) (w : World) : Calls Tryz.prog 74 #[.int .u64 x, .int .i64 61] w fun e w' => e = .returned (.int .u64 (ru 61 x)) ∧ w' = w := rturn64 x 61 (by decide) (by decide) w

theorem append_rd {w : World} {ops : Array Oper} {rest : List Oper} {o : Oper} {a : Act} {Q : Exit → Act → World → Prop} (hgd : o.guard = none) (s x : Operand)
    (ho : o.op = .call { callee := .builtin .append, args := #[s, x], argTypes := #[81, 81] })
    (base : Nat) (i : TypeInfo) (hi : Tryz.prog.info? 5 = some i) (hz : i.zero = some (.int .u8 0)) (hsize : i.size = 1) (hby : i.bytes = 1)
    (v : Value) (n : Nat) (xs : List UInt8) (hs : a.eval s = v) (hown : w.ownsRow base 5 1 v n (xs.map B))
    (ao : Option Addr) (m c : Nat) (l : List UInt8) (hx : a.eval x = .slice ao m c) (hl : l.length = m) (hao : ao = none → m = 0 ∧ c = 0) (hrd : Rd w ao l)
    (hbytes : n + m ≤ 100000000000) (hbase : base ≤ w.heap.size)
    (h : ∀ v' w', w'.ownsRow base 5 1 v' (n + m) ((xs ++ l).map B) → w.grownBy w' v.ownBlock → wpList Tryz.prog ops Q rest (a.put o.dst v') w') : wpList Tryz.prog ops Q (o :: rest) a w := by
  cases ao with
  | none =>
    obtain ⟨rfl, rfl⟩ := hao rfl
    obtain rfl := List.eq_nil_of_length_eq_zero hl
    refine wpList_append_own_none hgd s x 81 ho base 5 i 1 Tryz.underlying81 hi v n (xs.map B) hs hown hx ?_
    exact h v w (by simpa using hown) (World.grownBy.refl _ _)
  | some ad =>
    refine wpList_append_own_wide w hgd s x 81 ho base 5 i (.int .u8 0) 1 1 Tryz.underlying81 hi hz hsize hby rfl (by decide) v n (xs.map B) hs hown ad m c (l.map B) hx (by simpa using hl) ?_ (oneB l) (by unfold maxLen; omega) (by omega) hbase ?_
    · intro j u hu
      rcases hrd with h0 | ⟨b, off, e, hb, hc⟩
      · subst h0; simp at hu
      · cases e
        have hj : j < l.length := by
          have := (List.getElem?_eq_some_iff.1 hu).1
          simpa using this
        rw [Addr.add_lit, hc j hj]
        simp [List.getElem?_map, List.getElem?_eq_getElem hj] at hu
        rw [← hu, List.getD_eq_getElem?_getD, List.getElem?_eq_getElem hj, Option.getD_some]
    · intro v' w' h1 h2 _
      exact h v' w' (by rw [List.map_append]; exact h1) h2

theorem own_rd {w : World} {base n : Nat} {v : Value} {l : List UInt8} (h : w.ownsRow base 5 1 v n (l.map B)) : ∃ ao cap, v = .slice ao n cap ∧ n = l.length ∧ n ≤ cap ∧ cap ≤ maxLen ∧ (ao = none → n = 0 ∧ cap = 0) ∧ Rd w ao l ∧ (∀ x, ao = some x → base ≤ x.block) := by
  have hl : l.length = n := by have := h.1; simpa using this
  rcases h.2 with ⟨rfl, rfl⟩ | ⟨g, cap, cur, rfl, hg, hh, hn, hc, hs, ht⟩
  · exact ⟨none, 0, rfl, hl.symm, Nat.le_refl _, Nat.zero_le _, fun _ => ⟨rfl, rfl⟩, .inl (List.eq_nil_of_length_eq_zero hl), fun _ e => by cases e⟩
  · refine ⟨_, cap, rfl, hl.symm, hn, hc, (fun e => by cases e), .inr ⟨g, 0, rfl, (h.lt g rfl).2, fun j hj => ?_⟩, fun x e => by cases e; exact hg⟩
    rw [Nat.zero_add, h.cellAt j (by omega)]
    simp [hj]

end Go.Proofs.YtdhfjhdlimmjhaaGreatDoor.Sha
namespace Go.Proofs.YtdhfjhdlimmjhaaGreatDoor.Sha
open Go.RowKit
set_option maxRecDepth 100000

def zR (K n : Nat) : Nat := (2 * K - 9 - n % K) % K
def padR (K : Nat) (m : List UInt8) : List UInt8 := m ++ [128] ++ List.replicate (zR K m.length) 0 ++ tobe 8 (m.length * 8)

theorem own_len {w : World} {base n : Nat} {v : Value} {l : List UInt8} (h : w.ownsRow base 5 1 v n (l.map B)) : ∃ a c, v = .slice a n c := by
  obtain ⟨a, c, e, _⟩ := own_rd h
  exact ⟨a, c, e⟩

theorem tobe_cons (k N : Nat) (h : k < 8) : (tobe 8 N).take (k + 1) = (tobe 8 N).take k ++ [UInt8.ofNat (N / 256 ^ (7 - k) % 256)] := by
  rw [List.take_succ_eq_append_getElem (by rw [tobe_length]; exact h)]
  simp [tobe]

set_option maxRecDepth 100000 in
set_option maxHeartbeats 1000000 in
theorem rfilled_64 (a : Option Addr) (c B0 : Nat) (m : List UInt8) (w : World) (hB : B0 = w.heap.size) (hrd : Rd w a m) (ha : a = none → m.length = 0 ∧ c = 0) (hm : m.length ≤ 100000000) :
    Calls Tryz.prog 72 #[.slice a m.length c, .int .i64 64] w fun e w' => ∃ v, e = .returned v ∧ w'.ownsRow B0 5 1 v (padR 64 m).length ((padR 64 m).map B) ∧ Below B0 w w' := by
  obtain ⟨i0, hi, hz0, hz1, hz2⟩ := info_parts infoB
  have HR : Hid (Rd w a m) := hrd
  clear hrd
  go_enter Tryz.func72, Tryz.ntmps72
  go_wp2_with (first
    | (at_builtin; refine append_rd rfl (.tmp 8) (.tmp 9) rfl B0 i0 hi hz0 hz1 hz2 _ 0 [] rfl (World.ownsRow_nil _ _ _ _) a m.length c m rfl rfl ha HR.out (by omega) (by omega) ?_; intro v1 w1 hown1 hgrow1)
    | (at_builtin; refine append_rd rfl (.tmp 11) (.tmp 12) rfl B0 i0 hi hz0 hz1 hz2 _ (0 + m.length) ([] ++ m) rfl (hown1.alloc _) (some ⟨w1.heap.size, 0, none⟩) 1 1 [128] rfl rfl (fun e => by cases e) (.inr ⟨w1.heap.size, 0, rfl, by simp, fun j hj => by (have : j = 0 := by simpa using hj); subst this; simp [B]⟩) (by omega) (by (have := hgrow1.size); simp; omega) ?_; intro v5 w5 hown5 hgrow5))
  have HB1 : Hid (Below B0 w w1) := (Below.refl _ _).grown hgrow1 (by omega) (fun k h => by cases h)
  have hs1 : B0 ≤ w1.heap.size := by have := HB1.out.size; omega
  have HO2 : Hid (w5.ownsRow B0 5 1 v5 (m.length + 1 + 0) ((m ++ [128] ++ List.replicate 0 0).map B)) := by
    show World.ownsRow _ _ _ _ _ _ _
    simpa using hown5
  have HB2 : Hid (Below B0 w w5) := HB1.out.trans ((((alloc_below w1 _).mono hs1)).grown hgrow5 (by rw [alloc_size]; omega) (own_block hown1))
  clear hown5 hgrow5 hown1 hgrow1 HB1
  obtain ⟨Zn, hZn⟩ : ∃ Zn, Zn = zR 64 m.length := ⟨_, rfl⟩
  have hzr : (m.length + 1 + Zn) % 64 = 64 - 8 ∧ ∀ k, k < Zn → (m.length + 1 + k) % 64 ≠ 64 - 8 := by
    unfold zR at hZn
    constructor
    · omega
    · intro k hk
      omega
  have hz2' : Zn < 64 := by rw [hZn]; unfold zR; omega
  have HZn : Hid (True → Zn = zR 64 m.length) := fun _ => hZn
  have HZ : Hid (∀ k, k < Zn → (m.length + 1 + k) % 64 ≠ 64 - 8) := hzr.2
  have hz1' := hzr.1
  clear hZn hzr HR
  go_loopw [5] (fun s ws => ∃ k : Nat, k ≤ Zn ∧ Hid (ws.ownsRow B0 5 1 s (m.length + 1 + k) ((m ++ [128] ++ List.replicate k 0).map B)) ∧ Hid (Below B0 w ws)) (fun s _ => Zn + m.length + 1 - (match s with | .slice _ n _ => n | _ => 0))
  case atStart => exact ⟨0, by omega, HO2, HB2⟩
  case round =>
    clear HO2 HB2
    obtain ⟨k, hk, hown, hbel⟩ := hrel
    obtain ⟨av, cv, rfl⟩ := own_len hown.out
    by_cases hlt : k < Zn
    · have hne := HZ.out k hlt
      have hneI : (Int.tmod ((m.length + 1 + k : Nat) : Int) 64 != (64 - 8 : Int)) = true := by
        rw [Int.tmod_eq_emod_of_nonneg (by omega)]
        simp
        omega
      have hs2 : B0 ≤ wr.heap.size := by have := hbel.out.size; omega
      go_wp2_with (at_builtin; refine append_rd rfl (.tmp 21) (.tmp 22) rfl B0 i0 hi hz0 hz1 hz2 _ (m.length + 1 + k) (m ++ [128] ++ List.replicate k 0) rfl (hown.out.alloc _) (some ⟨wr.heap.size, 0, none⟩) 1 1 [0] rfl rfl (fun e => by cases e) (.inr ⟨wr.heap.size, 0, rfl, by simp, fun j hj => by (have : j = 0 := by simpa using hj); subst this; simp [B]⟩) (by omega) (by simp; omega) ?_; intro v5 w5 hown5 hgrow5)
      have HO3 : Hid (w5.ownsRow B0 5 1 v5 (m.length + 1 + (k + 1)) ((m ++ [128] ++ List.replicate (k + 1) 0).map B)) := by
        rw [List.replicate_succ', ← List.append_assoc]
        exact hown5
      have HB3 : Hid (Below B0 w w5) := hbel.out.trans ((((alloc_below wr _).mono hs2)).grown hgrow5 (by rw [alloc_size]; omega) (own_block hown.out))
      clear hown5 hgrow5
      obtain ⟨a5, c5, rfl⟩ := own_len HO3.out
      go_wp2
      refine ⟨⟨k + 1, by omega, HO3, HB3⟩, ?_⟩
      show Zn + m.length + 1 - (m.length + 1 + (k + 1)) < Zn + m.length + 1 - (m.length + 1 + k)
      omega
    · obtain rfl : k = Zn := by omega
      have heI : (Int.tmod ((m.length + 1 + k : Nat) : Int) 64 != (64 - 8 : Int)) = false := by
        rw [Int.tmod_eq_emod_of_nonneg (by omega)]
        simp
        omega
      have hwm : IntKind.u64.wrap ((m.length : Int) * 8) = ((m.length * 8 : Nat) : Int) := by rw [IntKind.wrap_u64]; omega
      have HO4 : Hid (wr.ownsRow B0 5 1 (.slice av (m.length + 1 + k) cv) (m.length + 1 + k + 0) ((m ++ [128] ++ List.replicate k 0 ++ (tobe 8 (m.length * 8)).take 0).map B)) := by
        show World.ownsRow _ _ _ _ _ _ _
        simpa using hown.out
      obtain ⟨Y, hY⟩ : ∃ Y, Y = m ++ [128] ++ List.replicate k 0 := ⟨_, rfl⟩
      have hYl : Y.length = m.length + 1 + k := by rw [hY]; simp; omega
      have HY : Hid (True → padR 64 m = Y ++ tobe 8 (m.length * 8)) := fun _ => by unfold padR; rw [← HZn.out trivial, hY]
      rw [← hY] at HO4
      obtain ⟨N, hN⟩ : ∃ N, N = m.length * 8 := ⟨_, rfl⟩
      have hN2 : N < 18446744073709551616 := by omega
      have hNI : (m.length : Int) * 8 = (N : Int) := by omega
      have HN : Hid (True → N = m.length * 8) := fun _ => hN
      rw [← hN] at HO4 hwm HY
      clear hY hN hown
      rename World => w6
      go_wp2
      clear heI hz1'
      generalize ((m.length : Int) + 1 + (k : Int)) % 64 = q17
      generalize (q17 != (56 : Int)) = b20
      go_loopw [5, 7] (fun s s7 ws => ∃ k2 : Nat, k2 ≤ 8 ∧ s7 = .int .i64 (7 - (k2 : Int)) ∧ Hid (ws.ownsRow B0 5 1 s (m.length + 1 + k + k2) ((Y ++ (tobe 8 N).take k2).map B)) ∧ Hid (Below B0 w ws)) (fun _ s _ => ((intOf s) + 1).toNat)
      case atStart => exact ⟨0, by omega, rfl, HO4, hbel⟩
      case round =>
        clear HO4 hbel hwm
        obtain ⟨k2, hk2, rfl, hown, hbel⟩ := hrel
        obtain ⟨av, cv, rfl⟩ := own_len hown.out
        by_cases hlt2 : k2 < 8
        · obtain ⟨j, hj⟩ : ∃ j : Nat, (7 : Int) - (k2 : Int) = (j : Int) := ⟨7 - k2, by omega⟩
          rw [hj]
          have hj2 : j ≤ 7 := by omega
          have hand : bits .and .u64 ((N : Int) / 2 ^ (8 * j)) 255 = ((N / 256 ^ j % 256 : Nat) : Int) := by
            have e1 : (N : Int) / 2 ^ (8 * j) = ((N / 256 ^ j : Nat) : Int) := by
              have : (2 : Int) ^ (8 * j) = ((256 ^ j : Nat) : Int) := by rw [Int.pow_mul]; simp
              rw [this]; rfl
            rw [e1]
            have e2 : (255 : Int) = ((255 : Nat) : Int) := rfl
            rw [e2, u64_and_nat _ 255 (Nat.lt_of_le_of_lt (Nat.div_le_self _ _) hN2) (by omega), nat_mask8]
          have hbt : N / 256 ^ j % 256 < 256 := Nat.mod_lt _ (by omega)
          have HT8 : Hid (True → (tobe 8 N).take (k2 + 1) = (tobe 8 N).take k2 ++ [UInt8.ofNat (N / 256 ^ j % 256)]) := fun _ => by
            rw [tobe_cons k2 N hlt2, show 7 - k2 = j by omega]
          have hwj : IntKind.u64.wrap (8 * (j : Int)) = 8 * (j : Int) := by rw [IntKind.wrap_u64]; omega
          generalize N / 256 ^ j % 256 = y at *
          have hs2 : B0 ≤ wr.heap.size := by have := hbel.out.size; omega
          go_wp2_with (at_builtin; refine append_rd rfl (.tmp 32) (.tmp 40) rfl B0 i0 hi hz0 hz1 hz2 _ (m.length + 1 + k + k2) (Y ++ (tobe 8 N).take k2) rfl (hown.out.alloc _) (some ⟨wr.heap.size, 0, none⟩) 1 1 [UInt8.ofNat y] rfl rfl (fun e => by cases e) (.inr ⟨wr.heap.size, 0, rfl, by simp, fun j hj => by (have : j = 0 := by simpa using hj); subst this; simp [B]; omega⟩) (by omega) (by simp; omega) ?_; intro v5 w5 hown5 hgrow5)
          have HO5 : Hid (w5.ownsRow B0 5 1 v5 (m.length + 1 + k + (k2 + 1)) ((Y ++ (tobe 8 N).take (k2 + 1)).map B)) := by
            rw [HT8.out trivial, ← List.append_assoc]
            exact hown5
          have HB5 : Hid (Below B0 w w5) := hbel.out.trans ((((alloc_below wr _).mono hs2)).grown hgrow5 (by rw [alloc_size]; omega) (own_block hown.out))
          clear hown5 hgrow5 hand hwj HT8
          go_wp2
          go_roundw
          case rel =>
            refine ⟨k2 + 1, by omega, ?_, HO5, HB5⟩
            congr 1
            omega
          case measure => first | (simp [intOf]; done) | (simp [intOf]; omega)
        · obtain rfl : k2 = 8 := by omega
          go_wp2
          go_ret
          have h1 := hown.out
          rw [List.take_of_length_le (by rw [tobe_length]; omega), HN.out trivial, ← HN.out trivial, ← HY.out trivial] at h1
          have hlen : (padR 64 m).length = m.length + 1 + k + 8 := by rw [HY.out trivial, List.length_append, hYl, tobe_length]
          refine ⟨_, rfl, ?_, hbel.out⟩
          rw [hlen]
          exact h1

set_option maxRecDepth 100000 in
set_option maxHeartbeats 1000000 in
theorem rfilled_128 (a : Option Addr) (c B0 : Nat) (m : List UInt8) (w : World) (hB : B0 = w.heap.size) (hrd : Rd w a m) (ha : a = none → m.length = 0 ∧ c = 0) (hm : m.length ≤ 100000000) :
    Calls Tryz.prog 72 #[.slice a m.length c, .int .i64 128] w fun e w' => ∃ v, e = .returned v ∧ w'.ownsRow B0 5 1 v (padR 128 m).length ((padR 128 m).map B) ∧ Below B0 w w' := by
  obtain ⟨i0, hi, hz0, hz1, hz2⟩ := info_parts infoB
  have HR : Hid (Rd w a m) := hrd
  clear hrd
  go_enter Tryz.func72, Tryz.ntmps72
  go_wp2_with (first
    | (at_builtin; refine append_rd rfl (.tmp 8) (.tmp 9) rfl B0 i0 hi hz0 hz1 hz2 _ 0 [] rfl (World.ownsRow_nil _ _ _ _) a m.length c m rfl rfl ha HR.out (by omega) (by omega) ?_; intro v1 w1 hown1 hgrow1)
    | (at_builtin; refine append_rd rfl (.tmp 11) (.tmp 12) rfl B0 i0 hi hz0 hz1 hz2 _ (0 + m.length) ([] ++ m) rfl (hown1.alloc _) (some ⟨w1.heap.size, 0, none⟩) 1 1 [128] rfl rfl (fun e => by cases e) (.inr ⟨w1.heap.size, 0, rfl, by simp, fun j hj => by (have : j = 0 := by simpa using hj); subst this; simp [B]⟩) (by omega) (by (have := hgrow1.size); simp; omega) ?_; intro v5 w5 hown5 hgrow5))
  have HB1 : Hid (Below B0 w w1) := (Below.refl _ _).grown hgrow1 (by omega) (fun k h => by cases h)
  have hs1 : B0 ≤ w1.heap.size := by have := HB1.out.size; omega
  have HO2 : Hid (w5.ownsRow B0 5 1 v5 (m.length + 1 + 0) ((m ++ [128] ++ List.replicate 0 0).map B)) := by
    show World.ownsRow _ _ _ _ _ _ _
    simpa using hown5
  have HB2 : Hid (Below B0 w w5) := HB1.out.trans ((((alloc_below w1 _).mono hs1)).grown hgrow5 (by rw [alloc_size]; omega) (own_block hown1))
  clear hown5 hgrow5 hown1 hgrow1 HB1
  obtain ⟨Zn, hZn⟩ : ∃ Zn, Zn = zR 128 m.length := ⟨_, rfl⟩
  have hzr : (m.length + 1 + Zn) % 128 = 128 - 8 ∧ ∀ k, k < Zn → (m.length + 1 + k) % 128 ≠ 128 - 8 := by
    unfold zR at hZn
    constructor
    · omega
    · intro k hk
      omega
  have hz2' : Zn < 128 := by rw [hZn]; unfold zR; omega
  have HZn : Hid (True → Zn = zR 128 m.length) := fun _ => hZn
  have HZ : Hid (∀ k, k < Zn → (m.length + 1 + k) % 128 ≠ 128 - 8) := hzr.2
  have hz1' := hzr.1
  clear hZn hzr HR
  go_loopw [5] (fun s ws => ∃ k : Nat, k ≤ Zn ∧ Hid (ws.ownsRow B0 5 1 s (m.length + 1 + k) ((m ++ [128] ++ List.replicate k 0).map B)) ∧ Hid (Below B0 w ws)) (fun s _ => Zn + m.length + 1 - (match s with | .slice _ n _ => n | _ => 0))
  case atStart => exact ⟨0, by omega, HO2, HB2⟩
  case round =>
    clear HO2 HB2
    obtain ⟨k, hk, hown, hbel⟩ := hrel
    obtain ⟨av, cv, rfl⟩ := own_len hown.out
    by_cases hlt : k < Zn
    · have hne := HZ.out k hlt
      have hneI : (Int.tmod ((m.length + 1 + k : Nat) : Int) 128 != (128 - 8 : Int)) = true := by
        rw [Int.tmod_eq_emod_of_nonneg (by omega)]
        simp
        omega
      have hs2 : B0 ≤ wr.heap.size := by have := hbel.out.size; omega
      go_wp2_with (at_builtin; refine append_rd rfl (.tmp 21) (.tmp 22) rfl B0 i0 hi hz0 hz1 hz2 _ (m.length + 1 + k) (m ++ [128] ++ List.replicate k 0) rfl (hown.out.alloc _) (some ⟨wr.heap.size, 0, none⟩) 1 1 [0] rfl rfl (fun e => by cases e) (.inr ⟨wr.heap.size, 0, rfl, by simp, fun j hj => by (have : j = 0 := by simpa using hj); subst this; simp [B]⟩) (by omega) (by simp; omega) ?_; intro v5 w5 hown5 hgrow5)
      have HO3 : Hid (w5.ownsRow B0 5 1 v5 (m.length + 1 + (k + 1)) ((m ++ [128] ++ List.replicate (k + 1) 0).map B)) := by
        rw [List.replicate_succ', ← List.append_assoc]
        exact hown5
      have HB3 : Hid (Below B0 w w5) := hbel.out.trans ((((alloc_below wr _).mono hs2)).grown hgrow5 (by rw [alloc_size]; omega) (own_block hown.out))
      clear hown5 hgrow5
      obtain ⟨a5, c5, rfl⟩ := own_len HO3.out
      go_wp2
      refine ⟨⟨k + 1, by omega, HO3, HB3⟩, ?_⟩
      show Zn + m.length + 1 - (m.length + 1 + (k + 1)) < Zn + m.length + 1 - (m.length + 1 + k)
      omega
    · obtain rfl : k = Zn := by omega
      have heI : (Int.tmod ((m.length + 1 + k : Nat) : Int) 128 != (128 - 8 : Int)) = false := by
        rw [Int.tmod_eq_emod_of_nonneg (by omega)]
        simp
        omega
      have hwm : IntKind.u64.wrap ((m.length : Int) * 8) = ((m.length * 8 : Nat) : Int) := by rw [IntKind.wrap_u64]; omega
      have HO4 : Hid (wr.ownsRow B0 5 1 (.slice av (m.length + 1 + k) cv) (m.length + 1 + k + 0) ((m ++ [128] ++ List.replicate k 0 ++ (tobe 8 (m.length * 8)).take 0).map B)) := by
        show World.ownsRow _ _ _ _ _ _ _
        simpa using hown.out
      obtain ⟨Y, hY⟩ : ∃ Y, Y = m ++ [128] ++ List.replicate k 0 := ⟨_, rfl⟩
      have hYl : Y.length = m.length + 1 + k := by rw [hY]; simp; omega
      have HY : Hid (True → padR 128 m = Y ++ tobe 8 (m.length * 8)) := fun _ => by unfold padR; rw [← HZn.out trivial, hY]
      rw [← hY] at HO4
      obtain ⟨N, hN⟩ : ∃ N, N = m.length * 8 := ⟨_, rfl⟩
      have hN2 : N < 18446744073709551616 := by omega
      have hNI : (m.length : Int) * 8 = (N : Int) := by omega
      have HN : Hid (True → N = m.length * 8) := fun _ => hN
      rw [← hN] at HO4 hwm HY
      clear hY hN hown
      rename World => w6
      go_wp2
      clear heI hz1'
      generalize ((m.length : Int) + 1 + (k : Int)) % 128 = q17
      generalize (q17 != (120 : Int)) = b20
      go_loopw [5, 7] (fun s s7 ws => ∃ k2 : Nat, k2 ≤ 8 ∧ s7 = .int .i64 (7 - (k2 : Int)) ∧ Hid (ws.ownsRow B0 5 1 s (m.length + 1 + k + k2) ((Y ++ (tobe 8 N).take k2).map B)) ∧ Hid (Below B0 w ws)) (fun _ s _ => ((intOf s) + 1).toNat)
      case atStart => exact ⟨0, by omega, rfl, HO4, hbel⟩
      case round =>
        clear HO4 hbel hwm
        obtain ⟨k2, hk2, rfl, hown, hbel⟩ := hrel
        obtain ⟨av, cv, rfl⟩ := own_len hown.out
        by_cases hlt2 : k2 < 8
        · obtain ⟨j, hj⟩ : ∃ j : Nat, (7 : Int) - (k2 : Int) = (j : Int) := ⟨7 - k2, by omega⟩
          rw [hj]
          have hj2 : j ≤ 7 := by omega
          have hand : bits .and .u64 ((N : Int) / 2 ^ (8 * j)) 255 = ((N / 256 ^ j % 256 : Nat) : Int) := by
            have e1 : (N : Int) / 2 ^ (8 * j) = ((N / 256 ^ j : Nat) : Int) := by
              have : (2 : Int) ^ (8 * j) = ((256 ^ j : Nat) : Int) := by rw [Int.pow_mul]; simp
              rw [this]; rfl
            rw [e1]
            have e2 : (255 : Int) = ((255 : Nat) : Int) := rfl
            rw [e2, u64_and_nat _ 255 (Nat.lt_of_le_of_lt (Nat.div_le_self _ _) hN2) (by omega), nat_mask8]
          have hbt : N / 256 ^ j % 256 < 256 := Nat.mod_lt _ (by omega)
          have HT8 : Hid (True → (tobe 8 N).take (k2 + 1) = (tobe 8 N).take k2 ++ [UInt8.ofNat (N / 256 ^ j % 256)]) := fun _ => by
            rw [tobe_cons k2 N hlt2, show 7 - k2 = j by omega]
          have hwj : IntKind.u64.wrap (8 * (j : Int)) = 8 * (j : Int) := by rw [IntKind.wrap_u64]; omega
          generalize N / 256 ^ j % 256 = y at *
          have hs2 : B0 ≤ wr.heap.size := by have := hbel.out.size; omega
          go_wp2_with (at_builtin; refine append_rd rfl (.tmp 32) (.tmp 40) rfl B0 i0 hi hz0 hz1 hz2 _ (m.length + 1 + k + k2) (Y ++ (tobe 8 N).take k2) rfl (hown.out.alloc _) (some ⟨wr.heap.size, 0, none⟩) 1 1 [UInt8.ofNat y] rfl rfl (fun e => by cases e) (.inr ⟨wr.heap.size, 0, rfl, by simp, fun j hj => by (have : j = 0 := by simpa using hj); subst this; simp [B]; omega⟩) (by omega) (by simp; omega) ?_; intro v5 w5 hown5 hgrow5)
          have HO5 : Hid (w5.ownsRow B0 5 1 v5 (m.length + 1 + k + (k2 + 1)) ((Y ++ (tobe 8 N).take (k2 + 1)).map B)) := by
            rw [HT8.out trivial, ← List.append_assoc]
            exact hown5
          have HB5 : Hid (Below B0 w w5) := hbel.out.trans ((((alloc_below wr _).mono hs2)).grown hgrow5 (by rw [alloc_size]; omega) (own_block hown.out))
          clear hown5 hgrow5 hand hwj HT8
          go_wp2
          go_roundw
          case rel =>
            refine ⟨k2 + 1, by omega, ?_, HO5, HB5⟩
            congr 1
            omega
          case measure => first | (simp [intOf]; done) | (simp [intOf]; omega)
        · obtain rfl : k2 = 8 := by omega
          go_wp2
          go_ret
          have h1 := hown.out
          rw [List.take_of_length_le (by rw [tobe_length]; omega), HN.out trivial, ← HN.out trivial, ← HY.out trivial] at h1
          have hlen : (padR 128 m).length = m.length + 1 + k + 8 := by rw [HY.out trivial, List.length_append, hYl, tobe_length]
          refine ⟨_, rfl, ?_, hbel.out⟩
          rw [hlen]
          exact h1

end Go.Proofs.YtdhfjhdlimmjhaaGreatDoor.Sha
namespace Go.Proofs.YtdhfjhdlimmjhaaGreatDoor.Sha
open Go.RowKit
set_option maxRecDepth 100000

def mixR (H : List Int) (bl : List UInt8) : List Int := List.zipWith (fun x y => (x + y) % 4294967296) H (l8 (rnds (ext (wds bl 16) 48) (r8 H) 64))
def chR (all : List UInt8) : Nat → List Int
  | 0 => S2
  | n + 1 => mixR (chR all n) ((all.drop (64 * n)).take 64)
def lw (bl : List UInt8) (i : Nat) : List Int := if i ≤ 16 then wds bl i else ext (wds bl 16) (i - 16)
theorem lw_length (bl : List UInt8) (i : Nat) : (lw bl i).length = i := by
  unfold lw
  split
  · exact wds_length _ _
  · rw [ext_length, wds_length]; omega
theorem lw_succ (bl : List UInt8) (i : Nat) (h : 16 ≤ i) : lw bl (i + 1) = lw bl i ++ [nx (lw bl i)] := by
  unfold lw
  rw [if_neg (by omega)]
  by_cases h1 : i = 16
  · subst h1; rfl
  · rw [if_neg (by omega), show i + 1 - 16 = (i - 16) + 1 by omega, ext]
theorem lw_low (bl : List UInt8) (i : Nat) (h : i < 16) : lw bl (i + 1) = lw bl i ++ [(be (pc bl 4 i) : Int)] := by
  unfold lw
  rw [if_pos (by omega), if_pos (by omega), wds_succ]
  rfl
theorem lw_full (bl : List UInt8) : lw bl 64 = ext (wds bl 16) 48 := rfl
theorem mixR_length (H : List Int) (bl : List UInt8) (h : H.length = 8) : (mixR H bl).length = 8 := by
  unfold mixR; rw [List.length_zipWith, l8_length]; simp [h]
theorem chR_length (all : List UInt8) (n : Nat) : (chR all n).length = 8 := by
  induction n with
  | zero => rfl
  | succ n ih => exact mixR_length _ _ ih

theorem or4 (x0 x1 x2 x3 : Nat) (h0 : x0 < 256) (h1 : x1 < 256) (h2 : x2 < 256) (h3 : x3 < 256) :
    bits .or .u32 (bits .or .u32 (bits .or .u32 ((x0 : Int) * 16777216) ((x1 : Int) * 65536)) ((x2 : Int) * 256)) (x3 : Int) = ((((x0 * 256 + x1) * 256 + x2) * 256 + x3 : Nat) : Int) := by
  have e0 : ((x0 : Int) * 16777216) = ((x0 * 16777216 : Nat) : Int) := by omega
  have e1 : ((x1 : Int) * 65536) = ((x1 * 65536 : Nat) : Int) := by omega
  have e2 : ((x2 : Int) * 256) = ((x2 * 256 : Nat) : Int) := by omega
  rw [e0, e1, e2, u32_or_nat (x0 * 16777216) (x1 * 65536) (by omega) (by omega), nat_join 24 (x0 * 16777216) (x1 * 65536) (by omega) (by omega),
    u32_or_nat (x0 * 16777216 + x1 * 65536) (x2 * 256) (by omega) (by omega), nat_join 16 (x0 * 16777216 + x1 * 65536) (x2 * 256) (by omega) (by omega),
    u32_or_nat (x0 * 16777216 + x1 * 65536 + x2 * 256) x3 (by omega) (by omega), nat_join 8 (x0 * 16777216 + x1 * 65536 + x2 * 256) x3 (by omega) (by omega)]
  exact congrArg (fun n : Nat => (n : Int)) (by omega)

theorem kn_K2 (k : Nat) (h : k < 64) : kn k = K2.getD k 0 := by
  have : ∀ i : Fin 64, kn i.val = K2.getD i.val 0 := by decide +kernel
  exact this ⟨k, h⟩

theorem chR_bd (all : List UInt8) (n : Nat) : ∀ k, 0 ≤ (chR all n).getD k 0 ∧ (chR all n).getD k 0 < 4294967296 := by
  cases n with
  | zero =>
    intro k
    by_cases h : k < 8
    · have : ∀ i : Fin 8, 0 ≤ S2.getD i.val 0 ∧ S2.getD i.val 0 < 4294967296 := by decide +kernel
      exact this ⟨k, h⟩
    · have e : (chR all 0).getD k 0 = 0 := by
        rw [List.getD_eq_getElem?_getD, List.getElem?_eq_none (by rw [chR_length]; omega)]
        rfl
      rw [e]
      omega
  | succ n =>
    intro k
    show 0 ≤ (mixR _ _).getD k 0 ∧ (mixR _ _).getD k 0 < 4294967296
    unfold mixR
    rw [List.getD_eq_getElem?_getD, List.getElem?_zipWith]
    cases (chR all n)[k]? <;> cases (l8 _)[k]? <;> simp <;> omega

theorem and255 (N : Nat) (h : N < 4294967296) : bits .and .u32 (N : Int) 255 = ((N % 256 : Nat) : Int) := by
  have e : (255 : Int) = ((255 : Nat) : Int) := rfl
  rw [e, u32_and_nat N 255 h (by omega), nat_mask8]
theorem tobe4 (N : Nat) (h : N < 4294967296) : tobe 4 N = [UInt8.ofNat (N / 16777216), UInt8.ofNat (N / 65536 % 256), UInt8.ofNat (N / 256 % 256), UInt8.ofNat (N % 256)] := by
  have e : N / 16777216 % 256 = N / 16777216 := by omega
  show [UInt8.ofNat (N / 256 ^ 3 % 256), UInt8.ofNat (N / 256 ^ 2 % 256), UInt8.ofNat (N / 256 ^ 1 % 256), UInt8.ofNat (N / 256 ^ 0 % 256)] = _
  rw [show (256 : Nat) ^ 3 = 16777216 from rfl, show (256 : Nat) ^ 2 = 65536 from rfl, show (256 : Nat) ^ 1 = 256 from rfl, show (256 : Nat) ^ 0 = 1 from rfl, e, Nat.div_one]
theorem own_base {w : World} {b1 b2 n : Nat} {e : TypeId} {v : Value} {xs : List Value} (h : w.ownsRow b1 e 1 v n xs) (hb : b2 ≤ b1) : w.ownsRow b2 e 1 v n xs := by
  refine ⟨h.1, ?_⟩
  rcases h.2 with h0 | ⟨g, cap, cur, e, hg, r⟩
  · exact .inl h0
  · exact .inr ⟨g, cap, cur, e, by omega, r⟩

theorem cl_of_eq {w : World} {b : Nat} {vs vs' : List Value} (h : Cl w b vs) (e : vs = vs') : Cl w b vs' := e ▸ h
theorem set8 {w : World} {b : Nat} {vs : List Value} (h : Cl w b vs) (hl : vs.length = 8) (v0 v1 v2 v3 v4 v5 v6 v7 : Value) :
    Cl ((((((((w.setCell ⟨b, 0, none⟩ v0).setCell ⟨b, 1, none⟩ v1).setCell ⟨b, 2, none⟩ v2).setCell ⟨b, 3, none⟩ v3).setCell ⟨b, 4, none⟩ v4).setCell ⟨b, 5, none⟩ v5).setCell ⟨b, 6, none⟩ v6).setCell ⟨b, 7, none⟩ v7) b [v0, v1, v2, v3, v4, v5, v6, v7] := by
  have h1 := (((((((h.set 0 v0).set 1 v1).set 2 v2).set 3 v3).set 4 v4).set 5 v5).set 6 v6).set 7 v7
  rcases vs with _ | ⟨c0, _ | ⟨c1, _ | ⟨c2, _ | ⟨c3, _ | ⟨c4, _ | ⟨c5, _ | ⟨c6, _ | ⟨c7, _ | ⟨c8, r⟩⟩⟩⟩⟩⟩⟩⟩⟩ <;> simp at hl
  exact h1

theorem pc4 (bl : List UInt8) (i : Nat) (h : 4 * i + 4 ≤ bl.length) : be (pc bl 4 i) = (((bl.getD (4 * i) 0).toNat * 256 + (bl.getD (4 * i + 1) 0).toNat) * 256 + (bl.getD (4 * i + 2) 0).toNat) * 256 + (bl.getD (4 * i + 3) 0).toNat := by
  have e : pc bl 4 i = [bl.getD (4 * i) 0, bl.getD (4 * i + 1) 0, bl.getD (4 * i + 2) 0, bl.getD (4 * i + 3) 0] := by
    apply List.ext_getElem
    · rw [pc_length _ _ _ h]; rfl
    · intro j h1 h2
      have hj : j < 4 := h2
      rw [pc_get bl 4 i j h h1 (by omega)]
      have hq : j = 0 ∨ j = 1 ∨ j = 2 ∨ j = 3 := by omega
      rcases hq with rfl | rfl | rfl | rfl
      · show bl[4 * i + 0] = bl.getD (4 * i) 0
        rw [List.getD_eq_getElem?_getD, List.getElem?_eq_getElem (show 4 * i < bl.length by omega)]; rfl
      · show bl[4 * i + 1] = bl.getD (4 * i + 1) 0
        rw [List.getD_eq_getElem?_getD, List.getElem?_eq_getElem (show 4 * i + 1 < bl.length by omega)]; rfl
      · show bl[4 * i + 2] = bl.getD (4 * i + 2) 0
        rw [List.getD_eq_getElem?_getD, List.getElem?_eq_getElem (show 4 * i + 2 < bl.length by omega)]; rfl
      · show bl[4 * i + 3] = bl.getD (4 * i + 3) 0
        rw [List.getD_eq_getElem?_getD, List.getElem?_eq_getElem (show 4 * i + 3 < bl.length by omega)]; rfl
  rw [e]
  simp [be]

theorem step_append_own {P : Program} {ops : Array Oper} {o : Oper} {a : Act} {w : World} {K : Act → World → Prop} {Q : Exit → Act → World → Prop} {E : Prop} (hg : o.guard = none) (s x : Operand) (t : TypeId)
    (ho : o.op = .call { callee := .builtin .append, args := #[s, x], argTypes := #[t, t] })
    (base : Nat) (e : TypeId) (i : TypeInfo) (z : Value) (size bytes : Nat) (ht : P.underlying t = some (.slice e)) (hi : P.info? e = some i) (hz : i.zero = some z)
    (hsize : i.size = size) (hby : i.bytes = bytes) (hzs : z.cells.size = size) (hsz : 0 < size)
    (v : Value) (n : Nat) (xs : List Value) (hs : a.eval s = v) (hown : w.ownsRow base e size v n xs)
    (ad : Addr) (m c : Nat) (news : List Value) (hx : a.eval x = .slice (some ad) m c) (hl : news.length = m * size) (hnews : ∀ j u, news[j]? = some u → w.cell? (ad.add j) = some u) (h1 : ∀ u ∈ news, u.oneCell' = true)
    (h63 : n + m ≤ maxLen) (hbytes : ((n + m) + (n + m) / 4 + 192) * bytes ≤ 281474976710656) (hbase : base ≤ w.heap.size)
    (h : ∀ v' w', w'.ownsRow base e size v' (n + m) (xs ++ news) → w.grownBy w' v.ownBlock → (v' = .slice none 0 0 ↔ v = .slice none 0 0 ∧ m = 0) → K (a.put o.dst v') w') :
    if Region.wanted o (yielded ops a.tmps) = true then Oper.wp P o a w K Q else E := by
  have hw : Region.wanted o (yielded ops a.tmps) = true := by simp [Region.wanted, hg]
  rw [if_pos hw]
  exact wp_append_own_wide w s x t ho base e i z size bytes ht hi hz hsize hby hzs hsz v n xs hs hown ad m c news hx hl hnews h1 h63 hbytes hbase h


end Go.Proofs.YtdhfjhdlimmjhaaGreatDoor.Sha
namespace Go.Proofs.YtdhfjhdlimmjhaaGreatDoor.Sha
open Go.RowKit
set_option maxRecDepth 100000

def fitL (l : List Int) : Prop := ∀ x ∈ l, 0 ≤ x ∧ x < 4294967296
theorem fit_map {l : List Int} (h : fitL l) : l.map (· % 4294967296) = l := by
  induction l with
  | nil => rfl
  | cons x r ih =>
    rw [List.map_cons, ih (fun y hy => h y (List.mem_cons_of_mem _ hy))]
    have := h x (List.mem_cons_self ..)
    congr 1
    omega
theorem fit_zip (f : Int → Int → Int) (hf : ∀ x y, 0 ≤ f x y ∧ f x y < 4294967296) : ∀ a b : List Int, fitL (List.zipWith f a b)
  | [], _ => fun x hx => by simp at hx
  | _ :: _, [] => fun x hx => by simp at hx
  | x :: a, y :: b => fun z hz => by
    rw [List.zipWith_cons_cons] at hz
    rcases List.mem_cons.1 hz with rfl | hz
    · exact hf x y
    · exact fit_zip f hf a b z hz
theorem mixN_fit (ch : List Int) (bl : List UInt8) : fitL (mixN ch bl) := by unfold mixN; exact fit_zip _ (fun x y => by omega) _ _
theorem mixN_mixR {ch : List Int} (h : fitL ch) (bl : List UInt8) : mixN ch bl = mixR ch bl := by
  unfold mixN mixR
  rw [fit_map h]
theorem st0_fit : fitL (st0 1) := by
  have : ∀ x ∈ st0 1, 0 ≤ x ∧ x < 4294967296 := by decide +kernel
  exact this
theorem st0_S2 : st0 1 = S2 := by decide +kernel

theorem chF_fit (m : List UInt8) (n : Nat) : fitL (chF 1 m n) := by
  cases n with
  | zero => exact st0_fit
  | succ n => show fitL (mixF 1 _ _); unfold mixF; rw [if_pos rfl]; exact mixN_fit _ _

theorem chR_chF (m y : List UInt8) (n : Nat) (h : 64 * n ≤ m.length) : chR (m ++ y) n = chF 1 m n := by
  induction n with
  | zero => exact st0_S2.symm
  | succ n ih =>
    have hb : blk 1 = 64 := rfl
    rw [chR, ih (by omega), chF]
    show _ = mixF 1 _ _
    unfold mixF
    rw [if_pos rfl, mixN_mixR (chF_fit m n)]
    congr 1
    unfold bkF
    rw [hb, Nat.mul_comm n 64, List.drop_append_of_le_length (by omega), List.take_append_of_le_length (by rw [List.length_drop]; omega), List.take_append_of_le_length (by rw [List.length_take, List.length_drop]; omega), List.take_take]
    simp

theorem tail_bit (m : List UInt8) : (tF 1 m).set (m.length % 64) 128 = rF 1 m ++ 128 :: List.replicate (127 - m.length % 64) 0 := by
  have hf : m.length % 64 < 64 := Nat.mod_lt _ (by omega)
  have hr : (rF 1 m).length = m.length % 64 := rF_length 1 m
  rw [tF_eq 1 m (by decide), show blk 1 = 64 from rfl, List.set_append_right _ _ (by omega), hr, Nat.sub_self, show 128 - m.length % 64 = (127 - m.length % 64) + 1 by omega, List.replicate_succ, List.set_cons_zero]

theorem last_take (tl : List UInt8) (n : Nat) (h : tl.length = 128) : (lastF 64 tl n).take 64 = tl.take 56 ++ tobe 8 (n * 8) := by
  unfold lastF
  rw [List.take_append_of_le_length (by simp [tobe_length]; omega), List.take_of_length_le (by simp [tobe_length]; omega)]

theorem chR_fin (m : List UInt8) : ∃ nb, (padR 64 m).length = 64 * nb ∧ chR (padR 64 m) nb = finF 1 m := by
  have hq := Nat.div_add_mod m.length 64
  have hf : m.length % 64 < 64 := Nat.mod_lt _ (by omega)
  have hr : (rF 1 m).length = m.length % 64 := rF_length 1 m
  have hb : blk 1 = 64 := rfl
  obtain ⟨Y, hY⟩ : ∃ Y, Y = [128] ++ List.replicate (zR 64 m.length) 0 ++ tobe 8 (m.length * 8) := ⟨_, rfl⟩
  have hp : padR 64 m = m ++ Y := by unfold padR; rw [hY]; simp
  have hz : zR 64 m.length = (119 - m.length % 64) % 64 := by unfold zR; rfl
  have hYl : Y.length = 9 + zR 64 m.length := by rw [hY]; simp [tobe_length]; omega
  have hc : chR (m ++ Y) (m.length / 64) = cF 1 m := chR_chF m Y _ (by omega)
  have hd : (m ++ Y).drop (64 * (m.length / 64)) = rF 1 m ++ Y := by
    rw [List.drop_append_of_le_length (by omega)]
    unfold rF
    rw [hb, Nat.mul_comm]
  have hfit : fitL (cF 1 m) := chF_fit m _
  have htl := tail_bit m
  have htll : ((tF 1 m).set (m.length % 64) 128).length = 128 := by rw [List.length_set, tF_length (.inl rfl)]
  rw [hp]
  by_cases h55 : m.length % 64 ≤ 55
  · have hz1 : zR 64 m.length = 55 - m.length % 64 := by rw [hz]; omega
    refine ⟨m.length / 64 + 1, by rw [List.length_append, hYl, hz1]; omega, ?_⟩
    unfold finF
    rw [hb, if_neg (by omega), chR, hc, hd, List.take_of_length_le (by rw [List.length_append, hr, hYl, hz1]; omega)]
    unfold mixF
    rw [if_pos rfl, mixN_mixR hfit, last_take _ _ htll, htl, List.take_append, hr, List.take_of_length_le (by omega), show 56 - m.length % 64 = (55 - m.length % 64) + 1 by omega, List.take_succ_cons, List.take_replicate, hY, hz1, show min (55 - m.length % 64) (127 - m.length % 64) = 55 - m.length % 64 by omega]
    simp
  · have hz1 : zR 64 m.length = 119 - m.length % 64 := by rw [hz]; omega
    refine ⟨m.length / 64 + 1 + 1, by rw [List.length_append, hYl, hz1]; omega, ?_⟩
    have hd2 : (m ++ Y).drop (64 * (m.length / 64 + 1)) = (rF 1 m ++ Y).drop 64 := by rw [← hd, List.drop_drop]; rfl
    have e1 : (rF 1 m ++ Y).take 64 = ((tF 1 m).set (m.length % 64) 128).take 64 := by
      rw [htl, List.take_append, List.take_append, hr, hY, hz1, List.append_assoc, show 64 - m.length % 64 = (63 - m.length % 64) + 1 by omega]
      show _ ++ List.take _ (128 :: (List.replicate (119 - m.length % 64) 0 ++ tobe 8 (m.length * 8))) = _
      rw [List.take_succ_cons, List.take_succ_cons, List.take_append_of_le_length (by simp; omega), List.take_replicate, List.take_replicate, show min (63 - m.length % 64) (119 - m.length % 64) = 63 - m.length % 64 by omega, show min (63 - m.length % 64) (127 - m.length % 64) = 63 - m.length % 64 by omega]
    have e2 : ((rF 1 m ++ Y).drop 64).take 64 = (lastF 64 Z128 m.length).take 64 := by
      rw [last_take _ _ Z128_length, List.drop_append, hr, List.drop_of_length_le (by omega), hY, hz1, List.append_assoc, show 64 - m.length % 64 = (63 - m.length % 64) + 1 by omega, List.nil_append]
      show List.take 64 (List.drop _ (128 :: (List.replicate (119 - m.length % 64) 0 ++ tobe 8 (m.length * 8)))) = _
      rw [List.drop_succ_cons, List.drop_append_of_le_length (by simp; omega), List.drop_replicate, show 119 - m.length % 64 - (63 - m.length % 64) = 56 by omega, List.take_of_length_le (by simp [tobe_length])]
      rfl
    unfold finF
    rw [hb, if_pos (by omega), chR, chR, hc, hd, hd2, e1, e2]
    unfold mixF
    rw [if_pos rfl, if_pos rfl, ← mixN_mixR hfit, ← mixN_mixR (mixN_fit _ _)]

end Go.Proofs.YtdhfjhdlimmjhaaGreatDoor.Sha
namespace Go.Proofs.YtdhfjhdlimmjhaaGreatDoor.Sha
open Go.RowKit
set_option maxRecDepth 100000

def zL (n : Nat) : Nat := if n % 128 < 112 then 119 - n % 128 else 247 - n % 128
def padL (m : List UInt8) : List UInt8 := m ++ [128] ++ List.replicate (zL m.length) 0 ++ tobe 8 (m.length * 8)

theorem padL_length (m : List UInt8) : (padL m).length = m.length + 1 + zL m.length + 8 := by unfold padL; simp [tobe_length]; omega
theorem padL_plain (m : List UInt8) (h : m.length % 128 < 112 ∨ 120 ≤ m.length % 128) : padL m = padR 128 m := by
  unfold padL padR
  have : zL m.length = zR 128 m.length := by
    unfold zL zR
    split <;> omega
  rw [this]
theorem padL_more (m : List UInt8) (h1 : 112 ≤ m.length % 128) (h2 : m.length % 128 < 120) :
    (padR 128 m).take ((padR 128 m).length - 8) ++ List.replicate 128 0 ++ (padR 128 m).drop ((padR 128 m).length - 8) = padL m := by
  have hz : zL m.length = zR 128 m.length + 128 := by
    unfold zL zR
    split <;> omega
  have hl : (padR 128 m).length - 8 = (m ++ [128] ++ List.replicate (zR 128 m.length) 0).length := by
    unfold padR
    rw [List.length_append, tobe_length]
    omega
  rw [hl]
  unfold padR
  rw [List.take_left', List.drop_left']
  · unfold padL
    rw [hz, ← List.replicate_append_replicate]
    simp
  · rfl
  · rfl

def chL (S : List Int) (all : List UInt8) : Nat → List Int
  | 0 => S
  | n + 1 => mixW (chL S all n) ((all.drop (128 * n)).take 128)
theorem mixW_length (ch : List Int) (bl : List UInt8) (h : ch.length = 8) : (mixW ch bl).length = 8 := by
  unfold mixW; rw [List.length_zipWith, l8_length]; simp [h]
theorem chL_length (S : List Int) (all : List UInt8) (n : Nat) (h : S.length = 8) : (chL S all n).length = 8 := by
  induction n with
  | zero => exact h
  | succ n ih => exact mixW_length _ _ ih
theorem chL_bd (S : List Int) (all : List UInt8) (n : Nat) (h : ∀ k, 0 ≤ S.getD k 0 ∧ S.getD k 0 < 18446744073709551616) : ∀ k, 0 ≤ (chL S all n).getD k 0 ∧ (chL S all n).getD k 0 < 18446744073709551616 := by
  cases n with
  | zero => exact h
  | succ n =>
    intro k
    show 0 ≤ (mixW _ _).getD k 0 ∧ (mixW _ _).getD k 0 < 18446744073709551616
    unfold mixW
    exact zip_bd _ (fun x y => by omega) _ _ k

def isL (h : Int) : Prop := h = 2 ∨ h = 3
theorem isL.blk {h : Int} (hh : isL h) : blk h = 128 := by rcases hh with rfl | rfl <;> rfl
theorem isL.ne {h : Int} (hh : isL h) : h ≠ 1 := by rcases hh with rfl | rfl <;> decide
theorem isL.isH {h : Int} (hh : isL h) : isH h := .inr hh
theorem mixF_L {h : Int} (hh : isL h) (ch : List Int) (tl : List UInt8) : mixF h ch tl = mixW ch tl := by unfold mixF; rw [if_neg hh.ne]

theorem chL_chF {h : Int} (hh : isL h) (m y : List UInt8) (n : Nat) (hn : 128 * n ≤ m.length) : chL (st0 h) (m ++ y) n = chF h m n := by
  induction n with
  | zero => rfl
  | succ n ih =>
    rw [chL, ih (by omega), chF, mixF_L hh]
    congr 1
    unfold bkF
    rw [hh.blk, Nat.mul_comm n 128, List.drop_append_of_le_length (by omega), List.take_append_of_le_length (by rw [List.length_drop]; omega), show 128 - ((m.drop (128 * n)).take 128).length = 0 by rw [List.length_take, List.length_drop]; omega]
    simp

theorem tail_bitL {h : Int} (hh : isL h) (m : List UInt8) : (tF h m).set (m.length % 128) 128 = rF h m ++ 128 :: List.replicate (127 - m.length % 128) 0 := by
  have hf : m.length % 128 < 128 := Nat.mod_lt _ (by omega)
  have hr : (rF h m).length = m.length % 128 := by rw [rF_length, hh.blk]
  rw [tF_eq h m (by rw [hh.blk]; omega), hh.blk, List.set_append_right _ _ (by omega), hr, Nat.sub_self, show 128 - m.length % 128 = (127 - m.length % 128) + 1 by omega, List.replicate_succ, List.set_cons_zero]
theorem last_L (tl : List UInt8) (n : Nat) (h : tl.length = 128) : lastF 128 tl n = tl.take 120 ++ tobe 8 (n * 8) := by
  unfold lastF
  rw [List.drop_of_length_le (by simp [tobe_length, h]), List.append_nil]

theorem chL_fin {h : Int} (hh : isL h) (m : List UInt8) : ∃ nb, (padL m).length = 128 * nb ∧ chL (st0 h) (padL m) nb = finF h m := by
  have hq := Nat.div_add_mod m.length 128
  have hf : m.length % 128 < 128 := Nat.mod_lt _ (by omega)
  have hr : (rF h m).length = m.length % 128 := by rw [rF_length, hh.blk]
  have hb : blk h = 128 := hh.blk
  obtain ⟨Y, hY⟩ : ∃ Y, Y = [128] ++ List.replicate (zL m.length) 0 ++ tobe 8 (m.length * 8) := ⟨_, rfl⟩
  have hp : padL m = m ++ Y := by unfold padL; rw [hY]; simp
  have hYl : Y.length = 9 + zL m.length := by rw [hY]; simp [tobe_length]; omega
  have hc : chL (st0 h) (m ++ Y) (m.length / 128) = cF h m := by
    unfold cF
    rw [hb]
    exact chL_chF hh m Y _ (by omega)
  have hd : (m ++ Y).drop (128 * (m.length / 128)) = rF h m ++ Y := by
    rw [List.drop_append_of_le_length (by omega)]
    unfold rF
    rw [hb, Nat.mul_comm]
  have htl := tail_bitL hh m
  have htll : ((tF h m).set (m.length % 128) 128).length = 128 := by rw [List.length_set, tF_length hh.isH]
  rw [hp]
  by_cases h55 : m.length % 128 < 112
  · have hz1 : zL m.length = 119 - m.length % 128 := by unfold zL; rw [if_pos h55]
    refine ⟨m.length / 128 + 1, by rw [List.length_append, hYl, hz1]; omega, ?_⟩
    unfold finF
    rw [hb, if_neg (by omega), chL, hc, hd, List.take_of_length_le (by rw [List.length_append, hr, hYl, hz1]; omega), mixF_L hh, last_L _ _ htll, htl, List.take_append, hr, List.take_of_length_le (by omega), show 120 - m.length % 128 = (119 - m.length % 128) + 1 by omega, List.take_succ_cons, List.take_replicate, hY, hz1, show min (119 - m.length % 128) (127 - m.length % 128) = 119 - m.length % 128 by omega]
    simp
  · have hz1 : zL m.length = 247 - m.length % 128 := by unfold zL; rw [if_neg h55]
    refine ⟨m.length / 128 + 1 + 1, by rw [List.length_append, hYl, hz1]; omega, ?_⟩
    have hd2 : (m ++ Y).drop (128 * (m.length / 128 + 1)) = (rF h m ++ Y).drop 128 := by rw [← hd, List.drop_drop]; rfl
    have e1 : (rF h m ++ Y).take 128 = (tF h m).set (m.length % 128) 128 := by
      rw [htl, List.take_append, List.take_of_length_le (by omega), hr, hY, hz1, List.append_assoc, show 128 - m.length % 128 = (127 - m.length % 128) + 1 by omega]
      show _ ++ List.take _ (128 :: (List.replicate (247 - m.length % 128) 0 ++ tobe 8 (m.length * 8))) = _
      rw [List.take_succ_cons, List.take_append_of_le_length (by simp; omega), List.take_replicate, show min (127 - m.length % 128) (247 - m.length % 128) = 127 - m.length % 128 by omega]
    have e2 : ((rF h m ++ Y).drop 128).take 128 = lastF 128 Z128 m.length := by
      rw [last_L _ _ Z128_length, List.drop_append, hr, List.drop_of_length_le (by omega), hY, hz1, List.append_assoc, show 128 - m.length % 128 = (127 - m.length % 128) + 1 by omega, List.nil_append]
      show List.take 128 (List.drop _ (128 :: (List.replicate (247 - m.length % 128) 0 ++ tobe 8 (m.length * 8)))) = _
      rw [List.drop_succ_cons, List.drop_append_of_le_length (by simp; omega), List.drop_replicate, show 247 - m.length % 128 - (127 - m.length % 128) = 120 by omega, List.take_of_length_le (by simp [tobe_length])]
      rfl
    unfold finF
    rw [hb, if_pos (by omega), chL, chL, hc, hd, hd2, e1, e2, mixF_L hh, mixF_L hh]

theorem st0_S3 : st0 2 = S3 := by decide +kernel
theorem st0_S5 : st0 3 = S5 := by decide +kernel
theorem S3_bd : ∀ k, 0 ≤ S3.getD k 0 ∧ S3.getD k 0 < 18446744073709551616 := by
  intro k
  by_cases h : k < 8
  · have : ∀ i : Fin 8, 0 ≤ S3.getD i.val 0 ∧ S3.getD i.val 0 < 18446744073709551616 := by decide +kernel
    exact this ⟨k, h⟩
  · rw [List.getD_eq_getElem?_getD, List.getElem?_eq_none (show S3.length ≤ k by have : S3.length = 8 := rfl; omega)]
    exact ⟨by decide, by decide⟩
theorem S5_bd : ∀ k, 0 ≤ S5.getD k 0 ∧ S5.getD k 0 < 18446744073709551616 := by
  intro k
  by_cases h : k < 8
  · have : ∀ i : Fin 8, 0 ≤ S5.getD i.val 0 ∧ S5.getD i.val 0 < 18446744073709551616 := by decide +kernel
    exact this ⟨k, h⟩
  · rw [List.getD_eq_getElem?_getD, List.getElem?_eq_none (show S5.length ≤ k by have : S5.length = 8 := rfl; omega)]
    exact ⟨by decide, by decide⟩
theorem K5_KT : K5 = KT := rfl

def lw' (bl : List UInt8) (i : Nat) : List Int := if i ≤ 16 then wds' bl i else ext' (wds' bl 16) (i - 16)
theorem lw'_length (bl : List UInt8) (i : Nat) : (lw' bl i).length = i := by
  unfold lw'
  split
  · exact wds'_length _ _
  · rw [ext'_length, wds'_length]; omega
theorem lw'_succ (bl : List UInt8) (i : Nat) (h : 16 ≤ i) : lw' bl (i + 1) = lw' bl i ++ [nx' (lw' bl i)] := by
  unfold lw'
  rw [if_neg (by omega)]
  by_cases h1 : i = 16
  · subst h1; rfl
  · rw [if_neg (by omega), show i + 1 - 16 = (i - 16) + 1 by omega, ext']
theorem lw'_low (bl : List UInt8) (i : Nat) (h : i < 16) : lw' bl (i + 1) = lw' bl i ++ [(be (pc bl 8 i) : Int)] := by
  unfold lw'
  rw [if_pos (by omega), if_pos (by omega), wds'_succ]
  rfl
theorem lw'_full (bl : List UInt8) : lw' bl 80 = ext' (wds' bl 16) 64 := rfl
theorem pad_set' (n : Nat) (l : List Int) (x y : Int) (h : l.length < n) : (pad n (l ++ [x])).set l.length y = pad n (l ++ [y]) := by
  rw [← pad_set n l x h, List.set_set, pad_set n l y h]
theorem pad_zero (n : Nat) (l : List Int) (h : l.length < n) : pad n (l ++ [0]) = pad n l := by
  unfold pad
  rw [show n - l.length = (n - (l ++ [0]).length) + 1 by simp; omega, List.replicate_succ]
  simp
theorem pc8_take (bl : List UInt8) (i k : Nat) (h : 8 * i + 8 ≤ bl.length) (hk : k < 8) : be ((pc bl 8 i).take (k + 1)) = be ((pc bl 8 i).take k) * 256 + (bl.getD (8 * i + k) 0).toNat := by
  have hl := pc_length bl 8 i h
  rw [take_be _ k (by omega), pc_get bl 8 i k h (by omega) (by omega), List.getD_eq_getElem?_getD, List.getElem?_eq_getElem (show 8 * i + k < bl.length by omega)]
  rfl
theorem pc8_lt (bl : List UInt8) (i k : Nat) (hk : k ≤ 7) : be ((pc bl 8 i).take k) < 72057594037927936 := by
  have h1 := be_lt ((pc bl 8 i).take k)
  rw [List.length_take] at h1
  refine Nat.lt_of_lt_of_le h1 ?_
  have : (256 : Nat) ^ (min k (pc bl 8 i).length) ≤ 256 ^ 7 := Nat.pow_le_pow_right (by decide) (by omega)
  omega
end Go.Proofs.YtdhfjhdlimmjhaaGreatDoor.Sha