import Derived.Test.YtpfdaclmchcbiaaDoorShRot
import Derived.Test.YtpfdaclmchcbiaaDoorShPut
namespace Go.Proofs.YtpfdaclmchcbiaaDoor.Sha
open Go.RowKit
set_option maxRecDepth 100000

/-- The program's tables. -/
def KT : List Int := [4794697086780616226, 8158064640168781261, 13096744586834688815, 16840607885511220156, 4131703408338449720,
  6480981068601479193, 10538285296894168987, 12329834152419229976, 15566598209576043074, 1334009975649890238,
  2608012711638119052, 6128411473006802146, 8268148722764581231, 9286055187155687089, 11230858885718282805,
  13951009754708518548, 16472876342353939154, 17275323862435702243, 1135362057144423861, 2597628984639134821,
  3308224258029322869, 5365058923640841347, 6679025012923562964, 8573033837759648693, 10970295158949994411,
  12119686244451234320, 12683024718118986047, 13788192230050041572, 14330467153632333762, 15395433587784984357,
  489312712824947311, 1452737877330783856, 2861767655752347644, 3322285676063803686, 5560940570517711597,
  5996557281743188959, 7280758554555802590, 8532644243296465576, 9350256976987008742, 10552545826968843579,
  11727347734174303076, 12113106623233404929, 14000437183269869457, 14369950271660146224, 15101387698204529176,
  15463397548674623760, 17586052441742319658, 1182934255886127544, 1847814050463011016, 2177327727835720531,
  2830643537854262169, 3796741975233480872, 4115178125766777443, 5681478168544905931, 6601373596472566643,
  7507060721942968483, 8399075790359081724, 8693463985226723168, 9568029438360202098, 10144078919501101548,
  10430055236837252648, 11840083180663258601, 13761210420658862357, 14299343276471374635, 14566680578165727644,
  15097957966210449927, 16922976911328602910, 17689382322260857208, 500013540394364858, 748580250866718886,
  1242879168328830382, 1977374033974150939, 2944078676154940804, 3659926193048069267, 4368137639120453308,
  4836135668995329356, 5532061633213252278, 6448918945643986474, 6902733635092675308, 7801388544844847127]
def SQ : List Int := [7640891576956012808, 13503953896175478587, 4354685564936845355, 11912009170470909681, 5840696475078001361,
  11170449401992604703, 2270897969802886507, 6620516959819538809, 14680500436340154072, 7105036623409894663,
  10473403895298186519, 1526699215303891257, 7436329637833083697, 10282925794625328401, 15784041429090275239,
  5167115440072839076]

/-- They stand in the world. -/
structure Tb (w : World) : Prop where
  k : ∀ i, i < 80 → w.cell? ⟨6, i, none⟩ = some (V (KT.getD i 0))
  s : ∀ i, i < 16 → w.cell? ⟨2, i, none⟩ = some (V (SQ.getD i 0))

theorem cell_but {w w' : World} {g i : Nat} {v : Value} (h : w.cell? ⟨g, i, none⟩ = some v) (e : g < w.heap.size → w'.heap[g]? = w.heap[g]?) : w'.cell? ⟨g, i, none⟩ = some v := by
  have hg : g < w.heap.size := by
    rcases Nat.lt_or_ge g w.heap.size with h1 | h1
    · exact h1
    · exfalso
      unfold World.cell? at h
      simp [Array.getElem?_eq_none h1] at h
  have e2 := e hg
  unfold World.cell? at h ⊢
  simp only at h ⊢
  rw [e2]
  exact h

theorem Tb.but {w w' : World} {b : Nat} (h : Tb w) (hb : But w w' b) (h7 : 7 ≤ b) : Tb w' :=
  ⟨fun i hi => cell_but (h.k i hi) fun hg => hb.block _ hg (by omega), fun i hi => cell_but (h.s i hi) fun hg => hb.block _ hg (by omega)⟩
theorem Tb.below {w w' : World} (h : Tb w) (hb : Below w.heap.size w w') : Tb w' :=
  ⟨fun i hi => cell_but (h.k i hi) fun hg => hb.block _ hg, fun i hi => cell_but (h.s i hi) fun hg => hb.block _ hg⟩
theorem Tb.drewN {w : World} (h : Tb w) (q : Nat) : Tb (w.drewN q) := ⟨h.k, h.s⟩

/-- Eight words. -/
structure R8 where
  a : Int
  b : Int
  c : Int
  d : Int
  e : Int
  f : Int
  g : Int
  h : Int

/-- Words of 32 bits: what a word of the schedule adds; the next one; a round; the rounds. -/
def sa (x : Int) : Int := bits .xor .u32 (bits .xor .u32 (rt 7 x) (rt 18 x)) (x / 8)
def sb (y : Int) : Int := bits .xor .u32 (bits .xor .u32 (rt 17 y) (rt 19 y)) (y / 1024)
def nx (l : List Int) : Int := (l.getD (l.length - 16) 0 + l.getD (l.length - 7) 0 + sa (l.getD (l.length - 15) 0) + sb (l.getD (l.length - 2) 0)) % 4294967296
def ext (l : List Int) : Nat → List Int
  | 0 => l
  | n + 1 => ext l n ++ [nx (ext l n)]
def ge (e : Int) : Int := bits .xor .u32 (bits .xor .u32 (rt 6 e) (rt 11 e)) (rt 25 e)
def ga (a : Int) : Int := bits .xor .u32 (bits .xor .u32 (rt 2 a) (rt 13 a)) (rt 22 a)
def chs (e f g : Int) : Int := bits .xor .u32 (bits .and .u32 e f) (bits .and .u32 (bits .xor .u32 IntKind.u32.max e) g)
def maj (a b c : Int) : Int := bits .xor .u32 (bits .xor .u32 (bits .and .u32 a b) (bits .and .u32 a c)) (bits .and .u32 b c)
def tt (r : R8) (k x : Int) : Int := (r.h + x + k + ge r.e + chs r.e r.f r.g) % 4294967296
def uu (r : R8) : Int := (ga r.a + maj r.a r.b r.c) % 4294967296
def rnd (r : R8) (k x : Int) : R8 := ⟨(tt r k x + uu r) % 4294967296, r.a, r.b, r.c, (r.d + tt r k x) % 4294967296, r.e, r.f, r.g⟩
def kn (i : Nat) : Int := KT.getD i 0 / 4294967296
def rnds (l : List Int) (r : R8) : Nat → R8
  | 0 => r
  | n + 1 => rnd (rnds l r n) (kn n) (l.getD n 0)
def wds (bl : List UInt8) (n : Nat) : List Int := (List.range n).map fun i => (be ((bl.drop (4 * i)).take 4) : Int)
def r8 (l : List Int) : R8 := ⟨l.getD 0 0, l.getD 1 0, l.getD 2 0, l.getD 3 0, l.getD 4 0, l.getD 5 0, l.getD 6 0, l.getD 7 0⟩
def l8 (r : R8) : List Int := [r.a, r.b, r.c, r.d, r.e, r.f, r.g, r.h]
/-- A block of SHA-256 taken in. -/
def mixN (ch : List Int) (bl : List UInt8) : List Int :=
  List.zipWith (fun x y => (x + y) % 4294967296) (ch.map (· % 4294967296)) (l8 (rnds (ext (wds bl 16) 48) (r8 (ch.map (· % 4294967296))) 64))

theorem ext_length (l : List Int) (n : Nat) : (ext l n).length = l.length + n := by
  induction n with
  | zero => rfl
  | succ n ih => rw [ext, List.length_append, ih]; simp; omega
theorem wds_length (bl : List UInt8) (n : Nat) : (wds bl n).length = n := by simp [wds]
theorem wds_succ (bl : List UInt8) (n : Nat) : wds bl (n + 1) = wds bl n ++ [(be ((bl.drop (4 * n)).take 4) : Int)] := by simp [wds, List.range_succ]

/-- The same for words of 64 bits. -/
def sa' (x : Int) : Int := bits .xor .u64 (bits .xor .u64 (ru 1 x) (ru 8 x)) (x / 128)
def sb' (y : Int) : Int := bits .xor .u64 (bits .xor .u64 (ru 19 y) (ru 61 y)) (y / 64)
def nx' (l : List Int) : Int := (l.getD (l.length - 16) 0 + l.getD (l.length - 7) 0 + sa' (l.getD (l.length - 15) 0) + sb' (l.getD (l.length - 2) 0)) % 18446744073709551616
def ext' (l : List Int) : Nat → List Int
  | 0 => l
  | n + 1 => ext' l n ++ [nx' (ext' l n)]
def ge' (e : Int) : Int := bits .xor .u64 (bits .xor .u64 (ru 14 e) (ru 18 e)) (ru 41 e)
def ga' (a : Int) : Int := bits .xor .u64 (bits .xor .u64 (ru 28 a) (ru 34 a)) (ru 39 a)
def chs' (e f g : Int) : Int := bits .xor .u64 (bits .and .u64 e f) (bits .and .u64 (bits .xor .u64 IntKind.u64.max e) g)
def maj' (a b c : Int) : Int := bits .xor .u64 (bits .xor .u64 (bits .and .u64 a b) (bits .and .u64 a c)) (bits .and .u64 b c)
def tt' (r : R8) (k x : Int) : Int := (r.h + x + k + ge' r.e + chs' r.e r.f r.g) % 18446744073709551616
def uu' (r : R8) : Int := (ga' r.a + maj' r.a r.b r.c) % 18446744073709551616
def rnd' (r : R8) (k x : Int) : R8 := ⟨(tt' r k x + uu' r) % 18446744073709551616, r.a, r.b, r.c, (r.d + tt' r k x) % 18446744073709551616, r.e, r.f, r.g⟩
def rnds' (l : List Int) (r : R8) : Nat → R8
  | 0 => r
  | n + 1 => rnd' (rnds' l r n) (KT.getD n 0) (l.getD n 0)
def wds' (bl : List UInt8) (n : Nat) : List Int := (List.range n).map fun i => (be ((bl.drop (8 * i)).take 8) : Int)
/-- A block of SHA-384 or SHA-512 taken in. -/
def mixW (ch : List Int) (bl : List UInt8) : List Int :=
  List.zipWith (fun x y => (x + y) % 18446744073709551616) ch (l8 (rnds' (ext' (wds' bl 16) 64) (r8 ch) 80))

theorem ext'_length (l : List Int) (n : Nat) : (ext' l n).length = l.length + n := by
  induction n with
  | zero => rfl
  | succ n ih => rw [ext', List.length_append, ih]; simp; omega
theorem wds'_length (bl : List UInt8) (n : Nat) : (wds' bl n).length = n := by simp [wds']
theorem wds'_succ (bl : List UInt8) (n : Nat) : wds' bl (n + 1) = wds' bl n ++ [(be ((bl.drop (8 * n)).take 8) : Int)] := by simp [wds', List.range_succ]

/-- A row of n words, the first ones these, the others nought. -/
def pad (n : Nat) (l : List Int) : List Int := l ++ List.replicate (n - l.length) 0
theorem pad_length (n : Nat) (l : List Int) (h : l.length ≤ n) : (pad n l).length = n := by simp [pad]; omega
theorem pad_full (n : Nat) (l : List Int) (h : l.length = n) : pad n l = l := by simp [pad, h]
theorem pad_set (n : Nat) (l : List Int) (x : Int) (h : l.length < n) : (pad n l).set l.length x = pad n (l ++ [x]) := by
  unfold pad
  rw [List.set_append_right _ _ (Nat.le_refl _), Nat.sub_self, show n - l.length = (n - (l ++ [x]).length) + 1 by simp; omega, List.replicate_succ, List.set_cons_zero]
  simp
theorem pad_get (n : Nat) (l : List Int) (j : Nat) (h : j < l.length) (h2 : j < (pad n l).length) : (pad n l)[j] = l.getD j 0 := by
  simp [pad, h]

theorem zeros_rep (n : Nat) : (List.replicate n (0 : Int)).map U = List.replicate n (.int .u32 0) := by simp [U]

end Go.Proofs.YtpfdaclmchcbiaaDoor.Sha