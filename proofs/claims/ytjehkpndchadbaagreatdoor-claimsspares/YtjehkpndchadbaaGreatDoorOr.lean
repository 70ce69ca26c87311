import Derived.Test.YtjehkpndchadbaaGreatDoorOq
import Derived.Test.YtjehkpndchadbaaGreatDoorOrk
namespace Go.Proofs.YtjehkpndchadbaaGreatDoor
open Go.RowKit Go.Shelf
set_option maxRecDepth 100000

theorem oo0 : (oq 0).op = .move (.tmp 20) := by kernel_rfl
theorem od0 : (oq 0).dst = some 219 := by kernel_rfl
theorem og0 : (oq 0).guard = none := by kernel_rfl
theorem oo1 : (oq 1).op = .move (.tmp 8) := by kernel_rfl
theorem od1 : (oq 1).dst = some 220 := by kernel_rfl
theorem og1 : (oq 1).guard = none := by kernel_rfl
theorem oo2 : (oq 2).op = .move (.tmp 18) := by kernel_rfl
theorem od2 : (oq 2).dst = some 221 := by kernel_rfl
theorem og2 : (oq 2).guard = none := by kernel_rfl
theorem oo3 : (oq 3).op = .indexAddr 34 (.tmp 220) (.tmp 221) := by kernel_rfl
theorem od3 : (oq 3).dst = some 222 := by kernel_rfl
theorem og3 : (oq 3).guard = none := by kernel_rfl
theorem oo4 : (oq 4).op = .fieldAddr 28 (.tmp 222) 5 := by kernel_rfl
theorem od4 : (oq 4).dst = some 223 := by kernel_rfl
theorem og4 : (oq 4).guard = none := by kernel_rfl
theorem oo5 : (oq 5).op = .load 24 (.tmp 223) := by kernel_rfl
theorem od5 : (oq 5).dst = some 224 := by kernel_rfl
theorem og5 : (oq 5).guard = none := by kernel_rfl
theorem oo6 : (oq 6).op = .call { callee := .builtin .len, args := #[.tmp 224], argTypes := #[24] } := by kernel_rfl
theorem od6 : (oq 6).dst = some 225 := by kernel_rfl
theorem og6 : (oq 6).guard = none := by kernel_rfl
theorem oo7 : (oq 7).op = .binOp .lss 3 (.tmp 219) (.tmp 225) 3 := by kernel_rfl
theorem od7 : (oq 7).dst = some 226 := by kernel_rfl
theorem og7 : (oq 7).guard = none := by kernel_rfl
theorem oo8 : (oq 8).op = .move (.tmp 226) := by kernel_rfl
theorem od8 : (oq 8).dst = some 227 := by kernel_rfl
theorem og8 : (oq 8).guard = none := by kernel_rfl
theorem oo9 : (oq 9).op = .move (.tmp 8) := by kernel_rfl
theorem od9 : (oq 9).dst = some 228 := by kernel_rfl
theorem og9 : (oq 9).guard = some (8, true) := by kernel_rfl
theorem oo10 : (oq 10).op = .move (.tmp 18) := by kernel_rfl
theorem od10 : (oq 10).dst = some 229 := by kernel_rfl
theorem og10 : (oq 10).guard = some (8, true) := by kernel_rfl
theorem oo11 : (oq 11).op = .indexAddr 34 (.tmp 228) (.tmp 229) := by kernel_rfl
theorem od11 : (oq 11).dst = some 230 := by kernel_rfl
theorem og11 : (oq 11).guard = some (8, true) := by kernel_rfl
theorem oo12 : (oq 12).op = .fieldAddr 28 (.tmp 230) 5 := by kernel_rfl
theorem od12 : (oq 12).dst = some 231 := by kernel_rfl
theorem og12 : (oq 12).guard = some (8, true) := by kernel_rfl
theorem oo13 : (oq 13).op = .load 24 (.tmp 231) := by kernel_rfl
theorem od13 : (oq 13).dst = some 232 := by kernel_rfl
theorem og13 : (oq 13).guard = some (8, true) := by kernel_rfl
theorem oo14 : (oq 14).op = .move (.tmp 20) := by kernel_rfl
theorem od14 : (oq 14).dst = some 233 := by kernel_rfl
theorem og14 : (oq 14).guard = some (8, true) := by kernel_rfl
theorem oo15 : (oq 15).op = .indexAddr 24 (.tmp 232) (.tmp 233) := by kernel_rfl
theorem od15 : (oq 15).dst = some 234 := by kernel_rfl
theorem og15 : (oq 15).guard = some (8, true) := by kernel_rfl
theorem oo16 : (oq 16).op = .load 9 (.tmp 234) := by kernel_rfl
theorem od16 : (oq 16).dst = some 235 := by kernel_rfl
theorem og16 : (oq 16).guard = some (8, true) := by kernel_rfl
theorem oo17 : (oq 17).op = .buildSlice 24 2 #[(0, .const (.string ⟨#[111, 110, 101]⟩)), (1, .const (.string ⟨#[116, 119, 111]⟩))] := by kernel_rfl
theorem od17 : (oq 17).dst = some 236 := by kernel_rfl
theorem og17 : (oq 17).guard = some (8, true) := by kernel_rfl
theorem oo18 : (oq 18).op = .move (.tmp 18) := by kernel_rfl
theorem od18 : (oq 18).dst = some 237 := by kernel_rfl
theorem og18 : (oq 18).guard = some (8, true) := by kernel_rfl
theorem oo19 : (oq 19).op = .indexAddr 24 (.tmp 236) (.tmp 237) := by kernel_rfl
theorem od19 : (oq 19).dst = some 238 := by kernel_rfl
theorem og19 : (oq 19).guard = some (8, true) := by kernel_rfl
theorem oo20 : (oq 20).op = .load 9 (.tmp 238) := by kernel_rfl
theorem od20 : (oq 20).dst = some 239 := by kernel_rfl
theorem og20 : (oq 20).guard = some (8, true) := by kernel_rfl
theorem oo21 : (oq 21).op = .binOp .neq 9 (.tmp 235) (.tmp 239) 9 := by kernel_rfl
theorem od21 : (oq 21).dst = some 240 := by kernel_rfl
theorem og21 : (oq 21).guard = some (8, true) := by kernel_rfl
theorem oo22 : (oq 22).op = .move (.tmp 240) := by kernel_rfl
theorem od22 : (oq 22).dst = some 241 := by kernel_rfl
theorem og22 : (oq 22).guard = some (8, true) := by kernel_rfl
theorem oo23 : (oq 23).op = .move (.tmp 13) := by kernel_rfl
theorem od23 : (oq 23).dst = some 242 := by kernel_rfl
theorem og23 : (oq 23).guard = some (22, false) := by kernel_rfl
theorem oo24 : (oq 24).op = .move (.tmp 18) := by kernel_rfl
theorem od24 : (oq 24).dst = some 243 := by kernel_rfl
theorem og24 : (oq 24).guard = some (22, false) := by kernel_rfl
theorem oo25 : (oq 25).op = .indexAddr 39 (.tmp 242) (.tmp 243) := by kernel_rfl
theorem od25 : (oq 25).dst = some 244 := by kernel_rfl
theorem og25 : (oq 25).guard = some (22, false) := by kernel_rfl
theorem oo26 : (oq 26).op = .load 24 (.tmp 244) := by kernel_rfl
theorem od26 : (oq 26).dst = some 245 := by kernel_rfl
theorem og26 : (oq 26).guard = some (22, false) := by kernel_rfl
theorem oo27 : (oq 27).op = .move (.tmp 20) := by kernel_rfl
theorem od27 : (oq 27).dst = some 246 := by kernel_rfl
theorem og27 : (oq 27).guard = some (22, false) := by kernel_rfl
theorem oo28 : (oq 28).op = .indexAddr 24 (.tmp 245) (.tmp 246) := by kernel_rfl
theorem od28 : (oq 28).dst = some 247 := by kernel_rfl
theorem og28 : (oq 28).guard = some (22, false) := by kernel_rfl
theorem oo29 : (oq 29).op = .load 9 (.tmp 247) := by kernel_rfl
theorem od29 : (oq 29).dst = some 248 := by kernel_rfl
theorem og29 : (oq 29).guard = some (22, false) := by kernel_rfl
theorem oo30 : (oq 30).op = .move (.tmp 8) := by kernel_rfl
theorem od30 : (oq 30).dst = some 249 := by kernel_rfl
theorem og30 : (oq 30).guard = some (22, false) := by kernel_rfl
theorem oo31 : (oq 31).op = .move (.tmp 18) := by kernel_rfl
theorem od31 : (oq 31).dst = some 250 := by kernel_rfl
theorem og31 : (oq 31).guard = some (22, false) := by kernel_rfl
theorem oo32 : (oq 32).op = .indexAddr 34 (.tmp 249) (.tmp 250) := by kernel_rfl
theorem od32 : (oq 32).dst = some 251 := by kernel_rfl
theorem og32 : (oq 32).guard = some (22, false) := by kernel_rfl
theorem oo33 : (oq 33).op = .fieldAddr 28 (.tmp 251) 5 := by kernel_rfl
theorem od33 : (oq 33).dst = some 252 := by kernel_rfl
theorem og33 : (oq 33).guard = some (22, false) := by kernel_rfl
theorem oo34 : (oq 34).op = .load 24 (.tmp 252) := by kernel_rfl
theorem od34 : (oq 34).dst = some 253 := by kernel_rfl
theorem og34 : (oq 34).guard = some (22, false) := by kernel_rfl
theorem oo35 : (oq 35).op = .move (.tmp 20) := by kernel_rfl
theorem od35 : (oq 35).dst = some 254 := by kernel_rfl
theorem og35 : (oq 35).guard = some (22, false) := by kernel_rfl
theorem oo36 : (oq 36).op = .indexAddr 24 (.tmp 253) (.tmp 254) := by kernel_rfl
theorem od36 : (oq 36).dst = some 255 := by kernel_rfl
theorem og36 : (oq 36).guard = some (22, false) := by kernel_rfl
theorem oo37 : (oq 37).op = .load 9 (.tmp 255) := by kernel_rfl
theorem od37 : (oq 37).dst = some 256 := by kernel_rfl
theorem og37 : (oq 37).guard = some (22, false) := by kernel_rfl
theorem oo38 : (oq 38).op = .binOp .neq 9 (.tmp 248) (.tmp 256) 9 := by kernel_rfl
theorem od38 : (oq 38).dst = some 257 := by kernel_rfl
theorem og38 : (oq 38).guard = some (22, false) := by kernel_rfl
theorem oo39 : (oq 39).op = .pick (.tmp 241) (.const (.bool true)) (.tmp 257) := by kernel_rfl
theorem od39 : (oq 39).dst = some 258 := by kernel_rfl
theorem og39 : (oq 39).guard = some (8, true) := by kernel_rfl
theorem oo40 : (oq 40).op = .pick (.tmp 227) (.tmp 258) (.const (.bool false)) := by kernel_rfl
theorem od40 : (oq 40).dst = some 259 := by kernel_rfl
theorem og40 : (oq 40).guard = none := by kernel_rfl
theorem oo41 : (oq 41).op = .move (.tmp 259) := by kernel_rfl
theorem od41 : (oq 41).dst = some 260 := by kernel_rfl
theorem og41 : (oq 41).guard = none := by kernel_rfl
theorem oo42 : (oq 42).op = .move (.tmp 20) := by kernel_rfl
theorem od42 : (oq 42).dst = some 261 := by kernel_rfl
theorem og42 : (oq 42).guard = some (41, false) := by kernel_rfl
theorem oo43 : (oq 43).op = .move (.tmp 8) := by kernel_rfl
theorem od43 : (oq 43).dst = some 262 := by kernel_rfl
theorem og43 : (oq 43).guard = some (41, false) := by kernel_rfl
theorem oo44 : (oq 44).op = .move (.tmp 18) := by kernel_rfl
theorem od44 : (oq 44).dst = some 263 := by kernel_rfl
theorem og44 : (oq 44).guard = some (41, false) := by kernel_rfl
theorem oo45 : (oq 45).op = .indexAddr 34 (.tmp 262) (.tmp 263) := by kernel_rfl
theorem od45 : (oq 45).dst = some 264 := by kernel_rfl
theorem og45 : (oq 45).guard = some (41, false) := by kernel_rfl
theorem oo46 : (oq 46).op = .fieldAddr 28 (.tmp 264) 5 := by kernel_rfl
theorem od46 : (oq 46).dst = some 265 := by kernel_rfl
theorem og46 : (oq 46).guard = some (41, false) := by kernel_rfl
theorem oo47 : (oq 47).op = .load 24 (.tmp 265) := by kernel_rfl
theorem od47 : (oq 47).dst = some 266 := by kernel_rfl
theorem og47 : (oq 47).guard = some (41, false) := by kernel_rfl
theorem oo48 : (oq 48).op = .call { callee := .builtin .len, args := #[.tmp 266], argTypes := #[24] } := by kernel_rfl
theorem od48 : (oq 48).dst = some 267 := by kernel_rfl
theorem og48 : (oq 48).guard = some (41, false) := by kernel_rfl
theorem oo49 : (oq 49).op = .binOp .geq 3 (.tmp 261) (.tmp 267) 3 := by kernel_rfl
theorem od49 : (oq 49).dst = some 268 := by kernel_rfl
theorem og49 : (oq 49).guard = some (41, false) := by kernel_rfl
theorem oo50 : (oq 50).op = .move (.tmp 268) := by kernel_rfl
theorem od50 : (oq 50).dst = some 269 := by kernel_rfl
theorem og50 : (oq 50).guard = some (41, false) := by kernel_rfl
theorem oo51 : (oq 51).op = .move (.tmp 13) := by kernel_rfl
theorem od51 : (oq 51).dst = some 270 := by kernel_rfl
theorem og51 : (oq 51).guard = some (50, true) := by kernel_rfl
theorem oo52 : (oq 52).op = .move (.tmp 18) := by kernel_rfl
theorem od52 : (oq 52).dst = some 271 := by kernel_rfl
theorem og52 : (oq 52).guard = some (50, true) := by kernel_rfl
theorem oo53 : (oq 53).op = .indexAddr 39 (.tmp 270) (.tmp 271) := by kernel_rfl
theorem od53 : (oq 53).dst = some 272 := by kernel_rfl
theorem og53 : (oq 53).guard = some (50, true) := by kernel_rfl
theorem oo54 : (oq 54).op = .load 24 (.tmp 272) := by kernel_rfl
theorem od54 : (oq 54).dst = some 273 := by kernel_rfl
theorem og54 : (oq 54).guard = some (50, true) := by kernel_rfl
theorem oo55 : (oq 55).op = .move (.tmp 20) := by kernel_rfl
theorem od55 : (oq 55).dst = some 274 := by kernel_rfl
theorem og55 : (oq 55).guard = some (50, true) := by kernel_rfl
theorem oo56 : (oq 56).op = .indexAddr 24 (.tmp 273) (.tmp 274) := by kernel_rfl
theorem od56 : (oq 56).dst = some 275 := by kernel_rfl
theorem og56 : (oq 56).guard = some (50, true) := by kernel_rfl
theorem oo57 : (oq 57).op = .load 9 (.tmp 275) := by kernel_rfl
theorem od57 : (oq 57).dst = some 276 := by kernel_rfl
theorem og57 : (oq 57).guard = some (50, true) := by kernel_rfl
theorem oo58 : (oq 58).op = .buildSlice 24 2 #[(0, .const (.string ⟨#[116, 104, 114, 101, 101]⟩)), (1, .const (.string ⟨#[102, 111, 117, 114]⟩))] := by kernel_rfl
theorem od58 : (oq 58).dst = some 277 := by kernel_rfl
theorem og58 : (oq 58).guard = some (50, true) := by kernel_rfl
theorem oo59 : (oq 59).op = .move (.tmp 18) := by kernel_rfl
theorem od59 : (oq 59).dst = some 278 := by kernel_rfl
theorem og59 : (oq 59).guard = some (50, true) := by kernel_rfl
theorem oo60 : (oq 60).op = .indexAddr 24 (.tmp 277) (.tmp 278) := by kernel_rfl
theorem od60 : (oq 60).dst = some 279 := by kernel_rfl
theorem og60 : (oq 60).guard = some (50, true) := by kernel_rfl
theorem oo61 : (oq 61).op = .load 9 (.tmp 279) := by kernel_rfl
theorem od61 : (oq 61).dst = some 280 := by kernel_rfl
theorem og61 : (oq 61).guard = some (50, true) := by kernel_rfl
theorem oo62 : (oq 62).op = .binOp .neq 9 (.tmp 276) (.tmp 280) 9 := by kernel_rfl
theorem od62 : (oq 62).dst = some 281 := by kernel_rfl
theorem og62 : (oq 62).guard = some (50, true) := by kernel_rfl
theorem oo63 : (oq 63).op = .pick (.tmp 269) (.tmp 281) (.const (.bool false)) := by kernel_rfl
theorem od63 : (oq 63).dst = some 282 := by kernel_rfl
theorem og63 : (oq 63).guard = some (41, false) := by kernel_rfl
theorem oo64 : (oq 64).op = .pick (.tmp 260) (.const (.bool true)) (.tmp 282) := by kernel_rfl
theorem od64 : (oq 64).dst = some 283 := by kernel_rfl
theorem og64 : (oq 64).guard = none := by kernel_rfl
theorem ob8 : (r45[8]?).bind (·.dst) = some 227 := by kernel_rfl
theorem ob22 : (r45[22]?).bind (·.dst) = some 241 := by kernel_rfl
theorem ob41 : (r45[41]?).bind (·.dst) = some 260 := by kernel_rfl
theorem ob50 : (r45[50]?).bind (·.dst) = some 269 := by kernel_rfl
theorem wp_yieldW {P : Program} {o : Oper} {a : Act} {w w' : World} {v : Value} {K : Act → World → Prop} {Q : Exit → Act → World → Prop} (h : (execOp a.eval o).run P w = .ok (.value v) w') (hK : K (a.put o.dst v) w') : Oper.wp P o a w K Q := by
  unfold Oper.wp
  rw [h]
  exact hK

set_option maxHeartbeats 4000000 in
theorem r45_one {Q : Exit → Act → World → Prop} {ds : List Deferred} {L : Nat → Option Value} (a0 : Act) (w : World) (g : Nat) (bL tA hX n m ca hc tc i k : Nat) (s : ByteArray) (hi : i < 2) (hk : k < n) (hkm : k < m) (hs : ([⟨#[111, 110, 101]⟩, ⟨#[116, 119, 111]⟩] : List ByteArray)[i]? = some s)
    (hQ : ∀ (o : Option Tmp) (v : Value) c a w, Q (.panic c) (a.put o v) w → Q (.panic c) a w) (F00 : Fs L ds [(8, .slice (some ⟨bL, 0, none⟩) 2 2), (18, .int .i64 (i : Int)), (20, .int .i64 (k : Int)), (13, .slice (some ⟨tA, 0, none⟩) 2 tc)] a0)
    (hS : w.cell? ⟨bL, i * 15 + 5, none⟩ = some (.slice (some ⟨g, 0, none⟩) n ca) ∧ w.cell? ⟨tA, i, none⟩ = some (.slice (some ⟨hX, 0, none⟩) m hc) ∧ w.cell? ⟨g, k, none⟩ = some (.string s) ∧ w.cell? ⟨hX, k, none⟩ = some (.string s))
    (h : ∀ b', Fs L ds [(283, .bool false)] b' → Q .normal b' ((World.drew w).alloc (Obj.cells #[.string ⟨#[111, 110, 101]⟩, .string ⟨#[116, 119, 111]⟩] 9))) : (Code.region 45 r45 true).wp Tryz.prog Q a0 w := by
  refine wp_region_K 64 (fun (w' : World) => w'.cell? ⟨bL, i * 15 + 5, none⟩ = some (.slice (some ⟨g, 0, none⟩) n ca) ∧ w'.cell? ⟨tA, i, none⟩ = some (.slice (some ⟨hX, 0, none⟩) m hc) ∧ w'.cell? ⟨g, k, none⟩ = some (.string s) ∧ w'.cell? ⟨hX, k, none⟩ = some (.string s)) (by kernel_rfl) ?_
  rw [r45_size]
  have hHeld : (fun (w' : World) => w'.cell? ⟨bL, i * 15 + 5, none⟩ = some (.slice (some ⟨g, 0, none⟩) n ca) ∧ w'.cell? ⟨tA, i, none⟩ = some (.slice (some ⟨hX, 0, none⟩) m hc) ∧ w'.cell? ⟨g, k, none⟩ = some (.string s) ∧ w'.cell? ⟨hX, k, none⟩ = some (.string s)) (World.drew w) := hS
  obtain ⟨wd, hwd⟩ : ∃ x, World.drew w = x := ⟨_, rfl⟩
  rw [hwd] at hHeld h ⊢
  clear hwd hS
  have hH2 : (fun (w' : World) => w'.cell? ⟨bL, i * 15 + 5, none⟩ = some (.slice (some ⟨g, 0, none⟩) n ca) ∧ w'.cell? ⟨tA, i, none⟩ = some (.slice (some ⟨hX, 0, none⟩) m hc) ∧ w'.cell? ⟨g, k, none⟩ = some (.string s) ∧ w'.cell? ⟨hX, k, none⟩ = some (.string s)) (wd.alloc (Obj.cells #[.string ⟨#[111, 110, 101]⟩, .string ⟨#[116, 119, 111]⟩] 9)) := ⟨cell_but hHeld.1 (fun hg => (alloc_below wd _).block _ hg), cell_but hHeld.2.1 (fun hg => (alloc_below wd _).block _ hg), cell_but hHeld.2.2.1 (fun hg => (alloc_below wd _).block _ hg), cell_but hHeld.2.2.2 (fun hg => (alloc_below wd _).block _ hg)⟩
  have kLit : (wd.alloc (Obj.cells #[.string ⟨#[111, 110, 101]⟩, .string ⟨#[116, 119, 111]⟩] 9)).cell? ⟨wd.heap.size, i, none⟩ = some (.string s) := by
    have h0 := (alloc_bl wd [.string ⟨#[111, 110, 101]⟩, .string ⟨#[116, 119, 111]⟩] 9).cell i (by simpa using hi)
    rcases (show i = 0 ∨ i = 1 by omega) with rfl | rfl
    · cases hs
      exact h0
    · cases hs
      exact h0
  refine wpAnyK_take0 0 (v := .int .i64 (k : Int)) (oq_drop 0 (by decide)) (by as_aux_lemma => kernel_rfl) (hQ _ _) (Or.inl ⟨(wanted0 og0), fun w' _ => y_move _ _ oo0 (F00.tmp 20 _ rfl)⟩) (fun _ => hHeld) ?_
  rw [od0]
  have G0 := F00.put 219 (.int .i64 (k : Int)) (by decide) (by decide)
  obtain ⟨b0, hb⟩ : ∃ x, Act.put a0 (some 219) (.int .i64 (k : Int)) = x := ⟨_, rfl⟩
  rw [hb] at G0 ⊢
  clear hb F00
  refine wpAnyK_take0 1 (v := .slice (some ⟨bL, 0, none⟩) 2 2) (oq_drop 1 (by decide)) (by as_aux_lemma => kernel_rfl) (hQ _ _) (Or.inl ⟨(wanted0 og1), fun w' _ => y_move _ _ oo1 (G0.tmp 8 _ rfl)⟩) (fun _ => hHeld) ?_
  rw [od1]
  have G1 := G0.put 220 (.slice (some ⟨bL, 0, none⟩) 2 2) (by decide) (by decide)
  obtain ⟨b1, hb⟩ : ∃ x, Act.put b0 (some 220) (.slice (some ⟨bL, 0, none⟩) 2 2) = x := ⟨_, rfl⟩
  rw [hb] at G1 ⊢
  clear hb G0
  refine wpAnyK_take0 2 (v := .int .i64 (i : Int)) (oq_drop 2 (by decide)) (by as_aux_lemma => kernel_rfl) (hQ _ _) (Or.inl ⟨(wanted0 og2), fun w' _ => y_move _ _ oo2 (G1.tmp 18 _ rfl)⟩) (fun _ => hHeld) ?_
  rw [od2]
  have G2 := G1.put 221 (.int .i64 (i : Int)) (by decide) (by decide)
  obtain ⟨b2, hb⟩ : ∃ x, Act.put b1 (some 221) (.int .i64 (i : Int)) = x := ⟨_, rfl⟩
  rw [hb] at G2 ⊢
  clear hb G1
  refine wpAnyK_take0 3 (v := .pointer (some ⟨bL, i * 15, none⟩)) (oq_drop 3 (by decide)) (by as_aux_lemma => kernel_rfl) (hQ _ _) (Or.inl ⟨(wanted0 og3), fun w' _ => y_idxC _ _ bL 2 i 2 oo3 (G2.tmp 220 _ rfl) (G2.tmp 221 _ rfl) hi⟩) (fun _ => hHeld) ?_
  rw [od3]
  have G3 := G2.put 222 (.pointer (some ⟨bL, i * 15, none⟩)) (by decide) (by decide)
  obtain ⟨b3, hb⟩ : ∃ x, Act.put b2 (some 222) (.pointer (some ⟨bL, i * 15, none⟩)) = x := ⟨_, rfl⟩
  rw [hb] at G3 ⊢
  clear hb G2
  refine wpAnyK_take0 4 (v := .pointer (some ⟨bL, i * 15 + 5, none⟩)) (oq_drop 4 (by decide)) (by as_aux_lemma => kernel_rfl) (hQ _ _) (Or.inl ⟨(wanted0 og4), fun w' _ => y_fld _ bL (i * 15) oo4 (G3.tmp 222 _ rfl)⟩) (fun _ => hHeld) ?_
  rw [od4]
  have G4 := G3.put 223 (.pointer (some ⟨bL, i * 15 + 5, none⟩)) (by decide) (by decide)
  obtain ⟨b4, hb⟩ : ∃ x, Act.put b3 (some 223) (.pointer (some ⟨bL, i * 15 + 5, none⟩)) = x := ⟨_, rfl⟩
  rw [hb] at G4 ⊢
  clear hb G3
  refine wpAnyK_take 5 (v := .slice (some ⟨g, 0, none⟩) n ca) [6, 7, 8, 40, 41, 64] (oq_drop 5 (by decide)) (by as_aux_lemma => kernel_rfl) (hQ _ _) (Or.inl ⟨(wanted0 og5), fun w' hSw => y_ldS _ _ _ _ _ oo5 (G4.tmp 223 _ rfl) hSw.1⟩) hHeld ?_
  rw [od5]
  have G5 := G4.put 224 (.slice (some ⟨g, 0, none⟩) n ca) (by decide) (by decide)
  obtain ⟨b5, hb⟩ : ∃ x, Act.put b4 (some 224) (.slice (some ⟨g, 0, none⟩) n ca) = x := ⟨_, rfl⟩
  rw [hb] at G5 ⊢
  clear hb G4
  refine wpAnyK_take0 6 (v := .int .i64 (n : Int)) (oq_drop 6 (by decide)) (by as_aux_lemma => kernel_rfl) (hQ _ _) (Or.inl ⟨(wanted0 og6), fun w' _ => y_len _ _ _ _ _ oo6 (G5.tmp 224 _ rfl) ⟨_, Tryz.underlying24⟩⟩) (fun _ => hHeld) ?_
  rw [od6]
  have G6 := G5.put 225 (.int .i64 (n : Int)) (by decide) (by decide)
  obtain ⟨b6, hb⟩ : ∃ x, Act.put b5 (some 225) (.int .i64 (n : Int)) = x := ⟨_, rfl⟩
  rw [hb] at G6 ⊢
  clear hb G5
  refine wpAnyK_take0 7 (v := .bool true) (oq_drop 7 (by decide)) (by as_aux_lemma => kernel_rfl) (hQ _ _) (Or.inl ⟨(wanted0 og7), fun w' _ => y_lss _ _ _ _ _ oo7 (G6.tmp 219 _ rfl) (G6.tmp 225 _ rfl) (decide_eq_true (by omega))⟩) (fun _ => hHeld) ?_
  rw [od7]
  have G7 := G6.put 226 (.bool true) (by decide) (by decide)
  obtain ⟨b7, hb⟩ : ∃ x, Act.put b6 (some 226) (.bool true) = x := ⟨_, rfl⟩
  rw [hb] at G7 ⊢
  clear hb G6
  refine wpAnyK_take0 8 (v := .bool true) (oq_drop 8 (by decide)) (by as_aux_lemma => kernel_rfl) (hQ _ _) (Or.inl ⟨(wanted0 og8), fun w' _ => y_move _ _ oo8 (G7.tmp 226 _ rfl)⟩) (fun _ => hHeld) ?_
  rw [od8]
  have G8 := G7.put 227 (.bool true) (by decide) (by decide)
  obtain ⟨b8, hb⟩ : ∃ x, Act.put b7 (some 227) (.bool true) = x := ⟨_, rfl⟩
  rw [hb] at G8 ⊢
  clear hb G7
  refine wpAnyK_take0 9 (v := .slice (some ⟨bL, 0, none⟩) 2 2) (oq_drop 9 (by decide)) (by as_aux_lemma => kernel_rfl) (hQ _ _) (Or.inl ⟨(wanted1 G8 8 true 227 true og9 ob8 rfl), fun w' _ => y_move _ _ oo9 (G8.tmp 8 _ rfl)⟩) (fun _ => hHeld) ?_
  rw [od9]
  have G9 := G8.put 228 (.slice (some ⟨bL, 0, none⟩) 2 2) (by decide) (by decide)
  obtain ⟨b9, hb⟩ : ∃ x, Act.put b8 (some 228) (.slice (some ⟨bL, 0, none⟩) 2 2) = x := ⟨_, rfl⟩
  rw [hb] at G9 ⊢
  clear hb G8
  refine wpAnyK_take0 10 (v := .int .i64 (i : Int)) (oq_drop 10 (by decide)) (by as_aux_lemma => kernel_rfl) (hQ _ _) (Or.inl ⟨(wanted1 G9 8 true 227 true og10 ob8 rfl), fun w' _ => y_move _ _ oo10 (G9.tmp 18 _ rfl)⟩) (fun _ => hHeld) ?_
  rw [od10]
  have G10 := G9.put 229 (.int .i64 (i : Int)) (by decide) (by decide)
  obtain ⟨b10, hb⟩ : ∃ x, Act.put b9 (some 229) (.int .i64 (i : Int)) = x := ⟨_, rfl⟩
  rw [hb] at G10 ⊢
  clear hb G9
  refine wpAnyK_take0 11 (v := .pointer (some ⟨bL, i * 15, none⟩)) (oq_drop 11 (by decide)) (by as_aux_lemma => kernel_rfl) (hQ _ _) (Or.inl ⟨(wanted1 G10 8 true 227 true og11 ob8 rfl), fun w' _ => y_idxC _ _ bL 2 i 2 oo11 (G10.tmp 228 _ rfl) (G10.tmp 229 _ rfl) hi⟩) (fun _ => hHeld) ?_
  rw [od11]
  have G11 := G10.put 230 (.pointer (some ⟨bL, i * 15, none⟩)) (by decide) (by decide)
  obtain ⟨b11, hb⟩ : ∃ x, Act.put b10 (some 230) (.pointer (some ⟨bL, i * 15, none⟩)) = x := ⟨_, rfl⟩
  rw [hb] at G11 ⊢
  clear hb G10
  refine wpAnyK_take0 12 (v := .pointer (some ⟨bL, i * 15 + 5, none⟩)) (oq_drop 12 (by decide)) (by as_aux_lemma => kernel_rfl) (hQ _ _) (Or.inl ⟨(wanted1 G11 8 true 227 true og12 ob8 rfl), fun w' _ => y_fld _ bL (i * 15) oo12 (G11.tmp 230 _ rfl)⟩) (fun _ => hHeld) ?_
  rw [od12]
  have G12 := G11.put 231 (.pointer (some ⟨bL, i * 15 + 5, none⟩)) (by decide) (by decide)
  obtain ⟨b12, hb⟩ : ∃ x, Act.put b11 (some 231) (.pointer (some ⟨bL, i * 15 + 5, none⟩)) = x := ⟨_, rfl⟩
  rw [hb] at G12 ⊢
  clear hb G11
  refine wpAnyK_take 13 (v := .slice (some ⟨g, 0, none⟩) n ca) [15, 16, 21, 22, 39, 40, 41, 64] (oq_drop 13 (by decide)) (by as_aux_lemma => kernel_rfl) (hQ _ _) (Or.inl ⟨(wanted1 G12 8 true 227 true og13 ob8 rfl), fun w' hSw => y_ldS _ _ _ _ _ oo13 (G12.tmp 231 _ rfl) hSw.1⟩) hHeld ?_
  rw [od13]
  have G13 := G12.put 232 (.slice (some ⟨g, 0, none⟩) n ca) (by decide) (by decide)
  obtain ⟨b13, hb⟩ : ∃ x, Act.put b12 (some 232) (.slice (some ⟨g, 0, none⟩) n ca) = x := ⟨_, rfl⟩
  rw [hb] at G13 ⊢
  clear hb G12
  refine wpAnyK_take0 14 (v := .int .i64 (k : Int)) (oq_drop 14 (by decide)) (by as_aux_lemma => kernel_rfl) (hQ _ _) (Or.inl ⟨(wanted1 G13 8 true 227 true og14 ob8 rfl), fun w' _ => y_move _ _ oo14 (G13.tmp 20 _ rfl)⟩) (fun _ => hHeld) ?_
  rw [od14]
  have G14 := G13.put 233 (.int .i64 (k : Int)) (by decide) (by decide)
  obtain ⟨b14, hb⟩ : ∃ x, Act.put b13 (some 233) (.int .i64 (k : Int)) = x := ⟨_, rfl⟩
  rw [hb] at G14 ⊢
  clear hb G13
  refine wpAnyK_take0 15 (v := .pointer (some ⟨g, k, none⟩)) (oq_drop 15 (by decide)) (by as_aux_lemma => kernel_rfl) (hQ _ _) (Or.inl ⟨(wanted1 G14 8 true 227 true og15 ob8 rfl), fun w' _ => y_idxT _ _ g ca k n oo15 (G14.tmp 232 _ rfl) (G14.tmp 233 _ rfl) hk⟩) (fun _ => hHeld) ?_
  rw [od15]
  have G15 := G14.put 234 (.pointer (some ⟨g, k, none⟩)) (by decide) (by decide)
  obtain ⟨b15, hb⟩ : ∃ x, Act.put b14 (some 234) (.pointer (some ⟨g, k, none⟩)) = x := ⟨_, rfl⟩
  rw [hb] at G15 ⊢
  clear hb G14
  refine wpAnyK_take 16 (v := .string s) [21, 22, 39, 40, 41, 64] (oq_drop 16 (by decide)) (by as_aux_lemma => kernel_rfl) (hQ _ _) (Or.inl ⟨(wanted1 G15 8 true 227 true og16 ob8 rfl), fun w' hSw => y_ldT _ _ _ oo16 (G15.tmp 234 _ rfl) hSw.2.2.1⟩) hHeld ?_
  rw [od16]
  have G16 := G15.put 235 (.string s) (by decide) (by decide)
  obtain ⟨b16, hb⟩ : ∃ x, Act.put b15 (some 235) (.string s) = x := ⟨_, rfl⟩
  rw [hb] at G16 ⊢
  clear hb G15
  refine wpAnyK_take0 18 (v := .int .i64 (i : Int)) (oq_drop 18 (by decide)) (by as_aux_lemma => kernel_rfl) (hQ _ _) (Or.inl ⟨(wanted1 G16 8 true 227 true og18 ob8 rfl), fun w' _ => y_move _ _ oo18 (G16.tmp 18 _ rfl)⟩) (fun _ => hHeld) ?_
  rw [od18]
  have G18 := G16.put 237 (.int .i64 (i : Int)) (by decide) (by decide)
  obtain ⟨b18, hb⟩ : ∃ x, Act.put b16 (some 237) (.int .i64 (i : Int)) = x := ⟨_, rfl⟩
  rw [hb] at G18 ⊢
  clear hb G16
  refine wpAnyK_step 17 (oq_drop 17 (by decide)) (by as_aux_lemma => kernel_rfl) (fun K hK => ?_)
  rw [if_pos (show Region.wanted _ _ = true from (wanted1 G18 8 true 227 true og17 ob8 rfl))]
  refine wp_yieldW (y_bld _ _ oo17 (fun _ => rfl)) ?_
  refine hK.out _ _ (fun _ => hH2) ?_
  clear hK K
  rw [od17]
  have G17 := G18.put 236 (.slice (some ⟨wd.heap.size, 0, none⟩) 2 2) (by decide) (by decide)
  obtain ⟨b17, hb⟩ : ∃ x, Act.put b18 (some 236) (.slice (some ⟨wd.heap.size, 0, none⟩) 2 2) = x := ⟨_, rfl⟩
  rw [hb] at G17 ⊢
  clear hb G18
  refine wpAnyK_take0 19 (v := .pointer (some ⟨wd.heap.size, i, none⟩)) (oq_drop 19 (by decide)) (by as_aux_lemma => kernel_rfl) (hQ _ _) (Or.inl ⟨(wanted1 G17 8 true 227 true og19 ob8 rfl), fun w' _ => y_idxT _ _ wd.heap.size 2 i 2 oo19 (G17.tmp 236 _ rfl) (G17.tmp 237 _ rfl) hi⟩) (fun _ => hH2) ?_
  rw [od19]
  have G19 := G17.put 238 (.pointer (some ⟨wd.heap.size, i, none⟩)) (by decide) (by decide)
  obtain ⟨b19, hb⟩ : ∃ x, Act.put b17 (some 238) (.pointer (some ⟨wd.heap.size, i, none⟩)) = x := ⟨_, rfl⟩
  rw [hb] at G19 ⊢
  clear hb G17
  refine wpAnyK_step 20 (oq_drop 20 (by decide)) (by as_aux_lemma => kernel_rfl) (fun K hK => ?_)
  rw [if_pos (show Region.wanted _ _ = true from (wanted1 G19 8 true 227 true og20 ob8 rfl))]
  refine wp_yieldW (y_ldT _ _ _ oo20 (G19.tmp 238 _ rfl) kLit) ?_
  refine hK.out _ _ (fun _ => hH2) ?_
  clear hK K
  rw [od20]
  have G20 := G19.put 239 (.string s) (by decide) (by decide)
  obtain ⟨b20, hb⟩ : ∃ x, Act.put b19 (some 239) (.string s) = x := ⟨_, rfl⟩
  rw [hb] at G20 ⊢
  clear hb G19
  refine wpAnyK_take0 21 (v := .bool false) (oq_drop 21 (by decide)) (by as_aux_lemma => kernel_rfl) (hQ _ _) (Or.inl ⟨(wanted1 G20 8 true 227 true og21 ob8 rfl), fun w' _ => y_neqs _ _ s oo21 (G20.tmp 235 _ rfl) (G20.tmp 239 _ rfl)⟩) (fun _ => hH2) ?_
  rw [od21]
  have G21 := G20.put 240 (.bool false) (by decide) (by decide)
  obtain ⟨b21, hb⟩ : ∃ x, Act.put b20 (some 240) (.bool false) = x := ⟨_, rfl⟩
  rw [hb] at G21 ⊢
  clear hb G20
  refine wpAnyK_take0 22 (v := .bool false) (oq_drop 22 (by decide)) (by as_aux_lemma => kernel_rfl) (hQ _ _) (Or.inl ⟨(wanted1 G21 8 true 227 true og22 ob8 rfl), fun w' _ => y_move _ _ oo22 (G21.tmp 240 _ rfl)⟩) (fun _ => hH2) ?_
  rw [od22]
  have G22 := G21.put 241 (.bool false) (by decide) (by decide)
  obtain ⟨b22, hb⟩ : ∃ x, Act.put b21 (some 241) (.bool false) = x := ⟨_, rfl⟩
  rw [hb] at G22 ⊢
  clear hb G21
  refine wpAnyK_take0 23 (v := .slice (some ⟨tA, 0, none⟩) 2 tc) (oq_drop 23 (by decide)) (by as_aux_lemma => kernel_rfl) (hQ _ _) (Or.inl ⟨(wanted1 G22 22 false 241 false og23 ob22 rfl), fun w' _ => y_move _ _ oo23 (G22.tmp 13 _ rfl)⟩) (fun _ => hH2) ?_
  rw [od23]
  have G23 := G22.put 242 (.slice (some ⟨tA, 0, none⟩) 2 tc) (by decide) (by decide)
  obtain ⟨b23, hb⟩ : ∃ x, Act.put b22 (some 242) (.slice (some ⟨tA, 0, none⟩) 2 tc) = x := ⟨_, rfl⟩
  rw [hb] at G23 ⊢
  clear hb G22
  refine wpAnyK_take0 24 (v := .int .i64 (i : Int)) (oq_drop 24 (by decide)) (by as_aux_lemma => kernel_rfl) (hQ _ _) (Or.inl ⟨(wanted1 G23 22 false 241 false og24 ob22 rfl), fun w' _ => y_move _ _ oo24 (G23.tmp 18 _ rfl)⟩) (fun _ => hH2) ?_
  rw [od24]
  have G24 := G23.put 243 (.int .i64 (i : Int)) (by decide) (by decide)
  obtain ⟨b24, hb⟩ : ∃ x, Act.put b23 (some 243) (.int .i64 (i : Int)) = x := ⟨_, rfl⟩
  rw [hb] at G24 ⊢
  clear hb G23
  refine wpAnyK_take0 25 (v := .pointer (some ⟨tA, i, none⟩)) (oq_drop 25 (by decide)) (by as_aux_lemma => kernel_rfl) (hQ _ _) (Or.inl ⟨(wanted1 G24 22 false 241 false og25 ob22 rfl), fun w' _ => y_idxS _ _ tA tc i 2 oo25 (G24.tmp 242 _ rfl) (G24.tmp 243 _ rfl) hi⟩) (fun _ => hH2) ?_
  rw [od25]
  have G25 := G24.put 244 (.pointer (some ⟨tA, i, none⟩)) (by decide) (by decide)
  obtain ⟨b25, hb⟩ : ∃ x, Act.put b24 (some 244) (.pointer (some ⟨tA, i, none⟩)) = x := ⟨_, rfl⟩
  rw [hb] at G25 ⊢
  clear hb G24
  refine wpAnyK_take 26 (v := .slice (some ⟨hX, 0, none⟩) m hc) [28, 29, 38, 39, 40, 41, 64] (oq_drop 26 (by decide)) (by as_aux_lemma => kernel_rfl) (hQ _ _) (Or.inl ⟨(wanted1 G25 22 false 241 false og26 ob22 rfl), fun w' hSw => y_ldS _ _ _ _ _ oo26 (G25.tmp 244 _ rfl) hSw.2.1⟩) hH2 ?_
  rw [od26]
  have G26 := G25.put 245 (.slice (some ⟨hX, 0, none⟩) m hc) (by decide) (by decide)
  obtain ⟨b26, hb⟩ : ∃ x, Act.put b25 (some 245) (.slice (some ⟨hX, 0, none⟩) m hc) = x := ⟨_, rfl⟩
  rw [hb] at G26 ⊢
  clear hb G25
  refine wpAnyK_take0 27 (v := .int .i64 (k : Int)) (oq_drop 27 (by decide)) (by as_aux_lemma => kernel_rfl) (hQ _ _) (Or.inl ⟨(wanted1 G26 22 false 241 false og27 ob22 rfl), fun w' _ => y_move _ _ oo27 (G26.tmp 20 _ rfl)⟩) (fun _ => hH2) ?_
  rw [od27]
  have G27 := G26.put 246 (.int .i64 (k : Int)) (by decide) (by decide)
  obtain ⟨b27, hb⟩ : ∃ x, Act.put b26 (some 246) (.int .i64 (k : Int)) = x := ⟨_, rfl⟩
  rw [hb] at G27 ⊢
  clear hb G26
  refine wpAnyK_take0 28 (v := .pointer (some ⟨hX, k, none⟩)) (oq_drop 28 (by decide)) (by as_aux_lemma => kernel_rfl) (hQ _ _) (Or.inl ⟨(wanted1 G27 22 false 241 false og28 ob22 rfl), fun w' _ => y_idxT _ _ hX hc k m oo28 (G27.tmp 245 _ rfl) (G27.tmp 246 _ rfl) hkm⟩) (fun _ => hH2) ?_
  rw [od28]
  have G28 := G27.put 247 (.pointer (some ⟨hX, k, none⟩)) (by decide) (by decide)
  obtain ⟨b28, hb⟩ : ∃ x, Act.put b27 (some 247) (.pointer (some ⟨hX, k, none⟩)) = x := ⟨_, rfl⟩
  rw [hb] at G28 ⊢
  clear hb G27
  refine wpAnyK_take 29 (v := .string s) [38, 39, 40, 41, 64] (oq_drop 29 (by decide)) (by as_aux_lemma => kernel_rfl) (hQ _ _) (Or.inl ⟨(wanted1 G28 22 false 241 false og29 ob22 rfl), fun w' hSw => y_ldT _ _ _ oo29 (G28.tmp 247 _ rfl) hSw.2.2.2⟩) hH2 ?_
  rw [od29]
  have G29 := G28.put 248 (.string s) (by decide) (by decide)
  obtain ⟨b29, hb⟩ : ∃ x, Act.put b28 (some 248) (.string s) = x := ⟨_, rfl⟩
  rw [hb] at G29 ⊢
  clear hb G28
  refine wpAnyK_take0 30 (v := .slice (some ⟨bL, 0, none⟩) 2 2) (oq_drop 30 (by decide)) (by as_aux_lemma => kernel_rfl) (hQ _ _) (Or.inl ⟨(wanted1 G29 22 false 241 false og30 ob22 rfl), fun w' _ => y_move _ _ oo30 (G29.tmp 8 _ rfl)⟩) (fun _ => hH2) ?_
  rw [od30]
  have G30 := G29.put 249 (.slice (some ⟨bL, 0, none⟩) 2 2) (by decide) (by decide)
  obtain ⟨b30, hb⟩ : ∃ x, Act.put b29 (some 249) (.slice (some ⟨bL, 0, none⟩) 2 2) = x := ⟨_, rfl⟩
  rw [hb] at G30 ⊢
  clear hb G29
  refine wpAnyK_take0 31 (v := .int .i64 (i : Int)) (oq_drop 31 (by decide)) (by as_aux_lemma => kernel_rfl) (hQ _ _) (Or.inl ⟨(wanted1 G30 22 false 241 false og31 ob22 rfl), fun w' _ => y_move _ _ oo31 (G30.tmp 18 _ rfl)⟩) (fun _ => hH2) ?_
  rw [od31]
  have G31 := G30.put 250 (.int .i64 (i : Int)) (by decide) (by decide)
  obtain ⟨b31, hb⟩ : ∃ x, Act.put b30 (some 250) (.int .i64 (i : Int)) = x := ⟨_, rfl⟩
  rw [hb] at G31 ⊢
  clear hb G30
  refine wpAnyK_take0 32 (v := .pointer (some ⟨bL, i * 15, none⟩)) (oq_drop 32 (by decide)) (by as_aux_lemma => kernel_rfl) (hQ _ _) (Or.inl ⟨(wanted1 G31 22 false 241 false og32 ob22 rfl), fun w' _ => y_idxC _ _ bL 2 i 2 oo32 (G31.tmp 249 _ rfl) (G31.tmp 250 _ rfl) hi⟩) (fun _ => hH2) ?_
  rw [od32]
  have G32 := G31.put 251 (.pointer (some ⟨bL, i * 15, none⟩)) (by decide) (by decide)
  obtain ⟨b32, hb⟩ : ∃ x, Act.put b31 (some 251) (.pointer (some ⟨bL, i * 15, none⟩)) = x := ⟨_, rfl⟩
  rw [hb] at G32 ⊢
  clear hb G31
  refine wpAnyK_take0 33 (v := .pointer (some ⟨bL, i * 15 + 5, none⟩)) (oq_drop 33 (by decide)) (by as_aux_lemma => kernel_rfl) (hQ _ _) (Or.inl ⟨(wanted1 G32 22 false 241 false og33 ob22 rfl), fun w' _ => y_fld _ bL (i * 15) oo33 (G32.tmp 251 _ rfl)⟩) (fun _ => hH2) ?_
  rw [od33]
  have G33 := G32.put 252 (.pointer (some ⟨bL, i * 15 + 5, none⟩)) (by decide) (by decide)
  obtain ⟨b33, hb⟩ : ∃ x, Act.put b32 (some 252) (.pointer (some ⟨bL, i * 15 + 5, none⟩)) = x := ⟨_, rfl⟩
  rw [hb] at G33 ⊢
  clear hb G32
  refine wpAnyK_take 34 (v := .slice (some ⟨g, 0, none⟩) n ca) [36, 37, 38, 39, 40, 41, 64] (oq_drop 34 (by decide)) (by as_aux_lemma => kernel_rfl) (hQ _ _) (Or.inl ⟨(wanted1 G33 22 false 241 false og34 ob22 rfl), fun w' hSw => y_ldS _ _ _ _ _ oo34 (G33.tmp 252 _ rfl) hSw.1⟩) hH2 ?_
  rw [od34]
  have G34 := G33.put 253 (.slice (some ⟨g, 0, none⟩) n ca) (by decide) (by decide)
  obtain ⟨b34, hb⟩ : ∃ x, Act.put b33 (some 253) (.slice (some ⟨g, 0, none⟩) n ca) = x := ⟨_, rfl⟩
  rw [hb] at G34 ⊢
  clear hb G33
  refine wpAnyK_take0 35 (v := .int .i64 (k : Int)) (oq_drop 35 (by decide)) (by as_aux_lemma => kernel_rfl) (hQ _ _) (Or.inl ⟨(wanted1 G34 22 false 241 false og35 ob22 rfl), fun w' _ => y_move _ _ oo35 (G34.tmp 20 _ rfl)⟩) (fun _ => hH2) ?_
  rw [od35]
  have G35 := G34.put 254 (.int .i64 (k : Int)) (by decide) (by decide)
  obtain ⟨b35, hb⟩ : ∃ x, Act.put b34 (some 254) (.int .i64 (k : Int)) = x := ⟨_, rfl⟩
  rw [hb] at G35 ⊢
  clear hb G34
  refine wpAnyK_take0 36 (v := .pointer (some ⟨g, k, none⟩)) (oq_drop 36 (by decide)) (by as_aux_lemma => kernel_rfl) (hQ _ _) (Or.inl ⟨(wanted1 G35 22 false 241 false og36 ob22 rfl), fun w' _ => y_idxT _ _ g ca k n oo36 (G35.tmp 253 _ rfl) (G35.tmp 254 _ rfl) hk⟩) (fun _ => hH2) ?_
  rw [od36]
  have G36 := G35.put 255 (.pointer (some ⟨g, k, none⟩)) (by decide) (by decide)
  obtain ⟨b36, hb⟩ : ∃ x, Act.put b35 (some 255) (.pointer (some ⟨g, k, none⟩)) = x := ⟨_, rfl⟩
  rw [hb] at G36 ⊢
  clear hb G35
  refine wpAnyK_take 37 (v := .string s) [38, 39, 40, 41, 64] (oq_drop 37 (by decide)) (by as_aux_lemma => kernel_rfl) (hQ _ _) (Or.inl ⟨(wanted1 G36 22 false 241 false og37 ob22 rfl), fun w' hSw => y_ldT _ _ _ oo37 (G36.tmp 255 _ rfl) hSw.2.2.1⟩) hH2 ?_
  rw [od37]
  have G37 := G36.put 256 (.string s) (by decide) (by decide)
  obtain ⟨b37, hb⟩ : ∃ x, Act.put b36 (some 256) (.string s) = x := ⟨_, rfl⟩
  rw [hb] at G37 ⊢
  clear hb G36
  refine wpAnyK_take0 38 (v := .bool false) (oq_drop 38 (by decide)) (by as_aux_lemma => kernel_rfl) (hQ _ _) (Or.inl ⟨(wanted1 G37 22 false 241 false og38 ob22 rfl), fun w' _ => y_neqs _ _ s oo38 (G37.tmp 248 _ rfl) (G37.tmp 256 _ rfl)⟩) (fun _ => hH2) ?_
  rw [od38]
  have G38 := G37.put 257 (.bool false) (by decide) (by decide)
  obtain ⟨b38, hb⟩ : ∃ x, Act.put b37 (some 257) (.bool false) = x := ⟨_, rfl⟩
  rw [hb] at G38 ⊢
  clear hb G37
  refine wpAnyK_take0 39 (v := .bool false) (oq_drop 39 (by decide)) (by as_aux_lemma => kernel_rfl) (hQ _ _) (Or.inl ⟨(wanted1 G38 8 true 227 true og39 ob8 rfl), fun w' _ => y_pick _ _ _ false _ oo39 (G38.tmp 241 _ rfl) (G38.tmp 257 _ rfl)⟩) (fun _ => hH2) ?_
  rw [od39]
  have G39 := G38.put 258 (.bool false) (by decide) (by decide)
  obtain ⟨b39, hb⟩ : ∃ x, Act.put b38 (some 258) (.bool false) = x := ⟨_, rfl⟩
  rw [hb] at G39 ⊢
  clear hb G38
  refine wpAnyK_take0 40 (v := .bool false) (oq_drop 40 (by decide)) (by as_aux_lemma => kernel_rfl) (hQ _ _) (Or.inl ⟨(wanted0 og40), fun w' _ => y_pick _ _ _ true _ oo40 (G39.tmp 227 _ rfl) (G39.tmp 258 _ rfl)⟩) (fun _ => hH2) ?_
  rw [od40]
  have G40 := G39.put 259 (.bool false) (by decide) (by decide)
  obtain ⟨b40, hb⟩ : ∃ x, Act.put b39 (some 259) (.bool false) = x := ⟨_, rfl⟩
  rw [hb] at G40 ⊢
  clear hb G39
  refine wpAnyK_take0 41 (v := .bool false) (oq_drop 41 (by decide)) (by as_aux_lemma => kernel_rfl) (hQ _ _) (Or.inl ⟨(wanted0 og41), fun w' _ => y_move _ _ oo41 (G40.tmp 259 _ rfl)⟩) (fun _ => hH2) ?_
  rw [od41]
  have G41 := G40.put 260 (.bool false) (by decide) (by decide)
  obtain ⟨b41, hb⟩ : ∃ x, Act.put b40 (some 260) (.bool false) = x := ⟨_, rfl⟩
  rw [hb] at G41 ⊢
  clear hb G40
  refine wpAnyK_take0 42 (v := .int .i64 (k : Int)) (oq_drop 42 (by decide)) (by as_aux_lemma => kernel_rfl) (hQ _ _) (Or.inl ⟨(wanted1 G41 41 false 260 false og42 ob41 rfl), fun w' _ => y_move _ _ oo42 (G41.tmp 20 _ rfl)⟩) (fun _ => hH2) ?_
  rw [od42]
  have G42 := G41.put 261 (.int .i64 (k : Int)) (by decide) (by decide)
  obtain ⟨b42, hb⟩ : ∃ x, Act.put b41 (some 261) (.int .i64 (k : Int)) = x := ⟨_, rfl⟩
  rw [hb] at G42 ⊢
  clear hb G41
  refine wpAnyK_take0 43 (v := .slice (some ⟨bL, 0, none⟩) 2 2) (oq_drop 43 (by decide)) (by as_aux_lemma => kernel_rfl) (hQ _ _) (Or.inl ⟨(wanted1 G42 41 false 260 false og43 ob41 rfl), fun w' _ => y_move _ _ oo43 (G42.tmp 8 _ rfl)⟩) (fun _ => hH2) ?_
  rw [od43]
  have G43 := G42.put 262 (.slice (some ⟨bL, 0, none⟩) 2 2) (by decide) (by decide)
  obtain ⟨b43, hb⟩ : ∃ x, Act.put b42 (some 262) (.slice (some ⟨bL, 0, none⟩) 2 2) = x := ⟨_, rfl⟩
  rw [hb] at G43 ⊢
  clear hb G42
  refine wpAnyK_take0 44 (v := .int .i64 (i : Int)) (oq_drop 44 (by decide)) (by as_aux_lemma => kernel_rfl) (hQ _ _) (Or.inl ⟨(wanted1 G43 41 false 260 false og44 ob41 rfl), fun w' _ => y_move _ _ oo44 (G43.tmp 18 _ rfl)⟩) (fun _ => hH2) ?_
  rw [od44]
  have G44 := G43.put 263 (.int .i64 (i : Int)) (by decide) (by decide)
  obtain ⟨b44, hb⟩ : ∃ x, Act.put b43 (some 263) (.int .i64 (i : Int)) = x := ⟨_, rfl⟩
  rw [hb] at G44 ⊢
  clear hb G43
  refine wpAnyK_take0 45 (v := .pointer (some ⟨bL, i * 15, none⟩)) (oq_drop 45 (by decide)) (by as_aux_lemma => kernel_rfl) (hQ _ _) (Or.inl ⟨(wanted1 G44 41 false 260 false og45 ob41 rfl), fun w' _ => y_idxC _ _ bL 2 i 2 oo45 (G44.tmp 262 _ rfl) (G44.tmp 263 _ rfl) hi⟩) (fun _ => hH2) ?_
  rw [od45]
  have G45 := G44.put 264 (.pointer (some ⟨bL, i * 15, none⟩)) (by decide) (by decide)
  obtain ⟨b45, hb⟩ : ∃ x, Act.put b44 (some 264) (.pointer (some ⟨bL, i * 15, none⟩)) = x := ⟨_, rfl⟩
  rw [hb] at G45 ⊢
  clear hb G44
  refine wpAnyK_take0 46 (v := .pointer (some ⟨bL, i * 15 + 5, none⟩)) (oq_drop 46 (by decide)) (by as_aux_lemma => kernel_rfl) (hQ _ _) (Or.inl ⟨(wanted1 G45 41 false 260 false og46 ob41 rfl), fun w' _ => y_fld _ bL (i * 15) oo46 (G45.tmp 264 _ rfl)⟩) (fun _ => hH2) ?_
  rw [od46]
  have G46 := G45.put 265 (.pointer (some ⟨bL, i * 15 + 5, none⟩)) (by decide) (by decide)
  obtain ⟨b46, hb⟩ : ∃ x, Act.put b45 (some 265) (.pointer (some ⟨bL, i * 15 + 5, none⟩)) = x := ⟨_, rfl⟩
  rw [hb] at G46 ⊢
  clear hb G45
  refine wpAnyK_take 47 (v := .slice (some ⟨g, 0, none⟩) n ca) [48, 49, 50, 63, 64] (oq_drop 47 (by decide)) (by as_aux_lemma => kernel_rfl) (hQ _ _) (Or.inl ⟨(wanted1 G46 41 false 260 false og47 ob41 rfl), fun w' hSw => y_ldS _ _ _ _ _ oo47 (G46.tmp 265 _ rfl) hSw.1⟩) hH2 ?_
  rw [od47]
  have G47 := G46.put 266 (.slice (some ⟨g, 0, none⟩) n ca) (by decide) (by decide)
  obtain ⟨b47, hb⟩ : ∃ x, Act.put b46 (some 266) (.slice (some ⟨g, 0, none⟩) n ca) = x := ⟨_, rfl⟩
  rw [hb] at G47 ⊢
  clear hb G46
  refine wpAnyK_take0 48 (v := .int .i64 (n : Int)) (oq_drop 48 (by decide)) (by as_aux_lemma => kernel_rfl) (hQ _ _) (Or.inl ⟨(wanted1 G47 41 false 260 false og48 ob41 rfl), fun w' _ => y_len _ _ _ _ _ oo48 (G47.tmp 266 _ rfl) ⟨_, Tryz.underlying24⟩⟩) (fun _ => hH2) ?_
  rw [od48]
  have G48 := G47.put 267 (.int .i64 (n : Int)) (by decide) (by decide)
  obtain ⟨b48, hb⟩ : ∃ x, Act.put b47 (some 267) (.int .i64 (n : Int)) = x := ⟨_, rfl⟩
  rw [hb] at G48 ⊢
  clear hb G47
  refine wpAnyK_take0 49 (v := .bool false) (oq_drop 49 (by decide)) (by as_aux_lemma => kernel_rfl) (hQ _ _) (Or.inl ⟨(wanted1 G48 41 false 260 false og49 ob41 rfl), fun w' _ => y_geq _ _ _ _ _ oo49 (G48.tmp 261 _ rfl) (G48.tmp 267 _ rfl) (decide_eq_false (by omega))⟩) (fun _ => hH2) ?_
  rw [od49]
  have G49 := G48.put 268 (.bool false) (by decide) (by decide)
  obtain ⟨b49, hb⟩ : ∃ x, Act.put b48 (some 268) (.bool false) = x := ⟨_, rfl⟩
  rw [hb] at G49 ⊢
  clear hb G48
  refine wpAnyK_take0 50 (v := .bool false) (oq_drop 50 (by decide)) (by as_aux_lemma => kernel_rfl) (hQ _ _) (Or.inl ⟨(wanted1 G49 41 false 260 false og50 ob41 rfl), fun w' _ => y_move _ _ oo50 (G49.tmp 268 _ rfl)⟩) (fun _ => hH2) ?_
  rw [od50]
  have G50 := G49.put 269 (.bool false) (by decide) (by decide)
  obtain ⟨b50, hb⟩ : ∃ x, Act.put b49 (some 269) (.bool false) = x := ⟨_, rfl⟩
  rw [hb] at G50 ⊢
  clear hb G49
  refine wpAnyK_take0 51 (v := undef) (oq_drop 51 (by decide)) (by as_aux_lemma => kernel_rfl) (hQ _ _) (Or.inr ⟨(wanted1 G50 50 true 269 false og51 ob50 rfl), rfl⟩) (fun _ => hH2) ?_
  rw [od51]
  have G51 := G50.put 270 (undef) (by decide) (by decide)
  obtain ⟨b51, hb⟩ : ∃ x, Act.put b50 (some 270) (undef) = x := ⟨_, rfl⟩
  rw [hb] at G51 ⊢
  clear hb G50
  refine wpAnyK_take0 52 (v := undef) (oq_drop 52 (by decide)) (by as_aux_lemma => kernel_rfl) (hQ _ _) (Or.inr ⟨(wanted1 G51 50 true 269 false og52 ob50 rfl), rfl⟩) (fun _ => hH2) ?_
  rw [od52]
  have G52 := G51.put 271 (undef) (by decide) (by decide)
  obtain ⟨b52, hb⟩ : ∃ x, Act.put b51 (some 271) (undef) = x := ⟨_, rfl⟩
  rw [hb] at G52 ⊢
  clear hb G51
  refine wpAnyK_take0 53 (v := undef) (oq_drop 53 (by decide)) (by as_aux_lemma => kernel_rfl) (hQ _ _) (Or.inr ⟨(wanted1 G52 50 true 269 false og53 ob50 rfl), rfl⟩) (fun _ => hH2) ?_
  rw [od53]
  have G53 := G52.put 272 (undef) (by decide) (by decide)
  obtain ⟨b53, hb⟩ : ∃ x, Act.put b52 (some 272) (undef) = x := ⟨_, rfl⟩
  rw [hb] at G53 ⊢
  clear hb G52
  refine wpAnyK_take0 54 (v := undef) (oq_drop 54 (by decide)) (by as_aux_lemma => kernel_rfl) (hQ _ _) (Or.inr ⟨(wanted1 G53 50 true 269 false og54 ob50 rfl), rfl⟩) (fun _ => hH2) ?_
  rw [od54]
  have G54 := G53.put 273 (undef) (by decide) (by decide)
  obtain ⟨b54, hb⟩ : ∃ x, Act.put b53 (some 273) (undef) = x := ⟨_, rfl⟩
  rw [hb] at G54 ⊢
  clear hb G53
  refine wpAnyK_take0 55 (v := undef) (oq_drop 55 (by decide)) (by as_aux_lemma => kernel_rfl) (hQ _ _) (Or.inr ⟨(wanted1 G54 50 true 269 false og55 ob50 rfl), rfl⟩) (fun _ => hH2) ?_
  rw [od55]
  have G55 := G54.put 274 (undef) (by decide) (by decide)
  obtain ⟨b55, hb⟩ : ∃ x, Act.put b54 (some 274) (undef) = x := ⟨_, rfl⟩
  rw [hb] at G55 ⊢
  clear hb G54
  refine wpAnyK_take0 56 (v := undef) (oq_drop 56 (by decide)) (by as_aux_lemma => kernel_rfl) (hQ _ _) (Or.inr ⟨(wanted1 G55 50 true 269 false og56 ob50 rfl), rfl⟩) (fun _ => hH2) ?_
  rw [od56]
  have G56 := G55.put 275 (undef) (by decide) (by decide)
  obtain ⟨b56, hb⟩ : ∃ x, Act.put b55 (some 275) (undef) = x := ⟨_, rfl⟩
  rw [hb] at G56 ⊢
  clear hb G55
  refine wpAnyK_take0 57 (v := undef) (oq_drop 57 (by decide)) (by as_aux_lemma => kernel_rfl) (hQ _ _) (Or.inr ⟨(wanted1 G56 50 true 269 false og57 ob50 rfl), rfl⟩) (fun _ => hH2) ?_
  rw [od57]
  have G57 := G56.put 276 (undef) (by decide) (by decide)
  obtain ⟨b57, hb⟩ : ∃ x, Act.put b56 (some 276) (undef) = x := ⟨_, rfl⟩
  rw [hb] at G57 ⊢
  clear hb G56
  refine wpAnyK_take0 59 (v := undef) (oq_drop 59 (by decide)) (by as_aux_lemma => kernel_rfl) (hQ _ _) (Or.inr ⟨(wanted1 G57 50 true 269 false og59 ob50 rfl), rfl⟩) (fun _ => hH2) ?_
  rw [od59]
  have G59 := G57.put 278 (undef) (by decide) (by decide)
  obtain ⟨b59, hb⟩ : ∃ x, Act.put b57 (some 278) (undef) = x := ⟨_, rfl⟩
  rw [hb] at G59 ⊢
  clear hb G57
  refine wpAnyK_take0 58 (v := undef) (oq_drop 58 (by decide)) (by as_aux_lemma => kernel_rfl) (hQ _ _) (Or.inr ⟨(wanted1 G59 50 true 269 false og58 ob50 rfl), rfl⟩) (fun _ => hH2) ?_
  rw [od58]
  have G58 := G59.put 277 (undef) (by decide) (by decide)
  obtain ⟨b58, hb⟩ : ∃ x, Act.put b59 (some 277) (undef) = x := ⟨_, rfl⟩
  rw [hb] at G58 ⊢
  clear hb G59
  refine wpAnyK_take0 60 (v := undef) (oq_drop 60 (by decide)) (by as_aux_lemma => kernel_rfl) (hQ _ _) (Or.inr ⟨(wanted1 G58 50 true 269 false og60 ob50 rfl), rfl⟩) (fun _ => hH2) ?_
  rw [od60]
  have G60 := G58.put 279 (undef) (by decide) (by decide)
  obtain ⟨b60, hb⟩ : ∃ x, Act.put b58 (some 279) (undef) = x := ⟨_, rfl⟩
  rw [hb] at G60 ⊢
  clear hb G58
  refine wpAnyK_take0 61 (v := undef) (oq_drop 61 (by decide)) (by as_aux_lemma => kernel_rfl) (hQ _ _) (Or.inr ⟨(wanted1 G60 50 true 269 false og61 ob50 rfl), rfl⟩) (fun _ => hH2) ?_
  rw [od61]
  have G61 := G60.put 280 (undef) (by decide) (by decide)
  obtain ⟨b61, hb⟩ : ∃ x, Act.put b60 (some 280) (undef) = x := ⟨_, rfl⟩
  rw [hb] at G61 ⊢
  clear hb G60
  refine wpAnyK_take0 62 (v := undef) (oq_drop 62 (by decide)) (by as_aux_lemma => kernel_rfl) (hQ _ _) (Or.inr ⟨(wanted1 G61 50 true 269 false og62 ob50 rfl), rfl⟩) (fun _ => hH2) ?_
  rw [od62]
  have G62 := G61.put 281 (undef) (by decide) (by decide)
  obtain ⟨b62, hb⟩ : ∃ x, Act.put b61 (some 281) (undef) = x := ⟨_, rfl⟩
  rw [hb] at G62 ⊢
  clear hb G61
  refine wpAnyK_take0 63 (v := .bool false) (oq_drop 63 (by decide)) (by as_aux_lemma => kernel_rfl) (hQ _ _) (Or.inl ⟨(wanted1 G62 41 false 260 false og63 ob41 rfl), fun w' _ => y_pick _ _ _ false _ oo63 (G62.tmp 269 _ rfl) rfl⟩) (fun _ => hH2) ?_
  rw [od63]
  have G63 := G62.put 282 (.bool false) (by decide) (by decide)
  obtain ⟨b63, hb⟩ : ∃ x, Act.put b62 (some 282) (.bool false) = x := ⟨_, rfl⟩
  rw [hb] at G63 ⊢
  clear hb G62
  refine wpAnyK_step 64 (oq_drop 64 (by decide)) (by as_aux_lemma => kernel_rfl) (fun K hK => ?_)
  rw [if_pos (show Region.wanted _ _ = true from (wanted0 og64))]
  refine wp_yieldW (y_pick _ _ _ false _ oo64 (G63.tmp 260 _ rfl) (G63.tmp 282 _ rfl)) ?_
  refine hK.out _ _ (fun _ => hH2) ?_
  clear hK K
  rw [od64]
  have G64 := G63.put 283 (.bool false) (by decide) (by decide)
  obtain ⟨b64, hb⟩ : ∃ x, Act.put b63 (some 283) (.bool false) = x := ⟨_, rfl⟩
  rw [hb] at G64 ⊢
  clear hb G63
  refine wpAnyK_done (by as_aux_lemma => kernel_rfl) ?_ _
  exact h _ (G64.only 283 _ rfl)

set_option maxHeartbeats 4000000 in
theorem r45_two {Q : Exit → Act → World → Prop} {ds : List Deferred} {L : Nat → Option Value} (a0 : Act) (w : World) (ao : Option Addr) (bL tA hX n m ca hc tc i k : Nat) (s : ByteArray) (hi : i < 2) (hk : n ≤ k) (hkm : k < m) (hs : ([⟨#[116, 104, 114, 101, 101]⟩, ⟨#[102, 111, 117, 114]⟩] : List ByteArray)[i]? = some s)
    (hQ : ∀ (o : Option Tmp) (v : Value) c a w, Q (.panic c) (a.put o v) w → Q (.panic c) a w) (F00 : Fs L ds [(8, .slice (some ⟨bL, 0, none⟩) 2 2), (18, .int .i64 (i : Int)), (20, .int .i64 (k : Int)), (13, .slice (some ⟨tA, 0, none⟩) 2 tc)] a0)
    (hS : w.cell? ⟨bL, i * 15 + 5, none⟩ = some (.slice (ao) n ca) ∧ w.cell? ⟨tA, i, none⟩ = some (.slice (some ⟨hX, 0, none⟩) m hc) ∧ w.cell? ⟨hX, k, none⟩ = some (.string s))
    (h : ∀ b', Fs L ds [(283, .bool false)] b' → Q .normal b' ((World.drew w).alloc (Obj.cells #[.string ⟨#[116, 104, 114, 101, 101]⟩, .string ⟨#[102, 111, 117, 114]⟩] 9))) : (Code.region 45 r45 true).wp Tryz.prog Q a0 w := by
  refine wp_region_K 64 (fun (w' : World) => w'.cell? ⟨bL, i * 15 + 5, none⟩ = some (.slice (ao) n ca) ∧ w'.cell? ⟨tA, i, none⟩ = some (.slice (some ⟨hX, 0, none⟩) m hc) ∧ w'.cell? ⟨hX, k, none⟩ = some (.string s)) (by kernel_rfl) ?_
  rw [r45_size]
  have hHeld : (fun (w' : World) => w'.cell? ⟨bL, i * 15 + 5, none⟩ = some (.slice (ao) n ca) ∧ w'.cell? ⟨tA, i, none⟩ = some (.slice (some ⟨hX, 0, none⟩) m hc) ∧ w'.cell? ⟨hX, k, none⟩ = some (.string s)) (World.drew w) := hS
  obtain ⟨wd, hwd⟩ : ∃ x, World.drew w = x := ⟨_, rfl⟩
  rw [hwd] at hHeld h ⊢
  clear hwd hS
  have hH2 : (fun (w' : World) => w'.cell? ⟨bL, i * 15 + 5, none⟩ = some (.slice (ao) n ca) ∧ w'.cell? ⟨tA, i, none⟩ = some (.slice (some ⟨hX, 0, none⟩) m hc) ∧ w'.cell? ⟨hX, k, none⟩ = some (.string s)) (wd.alloc (Obj.cells #[.string ⟨#[116, 104, 114, 101, 101]⟩, .string ⟨#[102, 111, 117, 114]⟩] 9)) := ⟨cell_but hHeld.1 (fun hg => (alloc_below wd _).block _ hg), cell_but hHeld.2.1 (fun hg => (alloc_below wd _).block _ hg), cell_but hHeld.2.2 (fun hg => (alloc_below wd _).block _ hg)⟩
  have kLit : (wd.alloc (Obj.cells #[.string ⟨#[116, 104, 114, 101, 101]⟩, .string ⟨#[102, 111, 117, 114]⟩] 9)).cell? ⟨wd.heap.size, i, none⟩ = some (.string s) := by
    have h0 := (alloc_bl wd [.string ⟨#[116, 104, 114, 101, 101]⟩, .string ⟨#[102, 111, 117, 114]⟩] 9).cell i (by simpa using hi)
    rcases (show i = 0 ∨ i = 1 by omega) with rfl | rfl
    · cases hs
      exact h0
    · cases hs
      exact h0
  refine wpAnyK_take0 0 (v := .int .i64 (k : Int)) (oq_drop 0 (by decide)) (by as_aux_lemma => kernel_rfl) (hQ _ _) (Or.inl ⟨(wanted0 og0), fun w' _ => y_move _ _ oo0 (F00.tmp 20 _ rfl)⟩) (fun _ => hHeld) ?_
  rw [od0]
  have G0 := F00.put 219 (.int .i64 (k : Int)) (by decide) (by decide)
  obtain ⟨b0, hb⟩ : ∃ x, Act.put a0 (some 219) (.int .i64 (k : Int)) = x := ⟨_, rfl⟩
  rw [hb] at G0 ⊢
  clear hb F00
  refine wpAnyK_take0 1 (v := .slice (some ⟨bL, 0, none⟩) 2 2) (oq_drop 1 (by decide)) (by as_aux_lemma => kernel_rfl) (hQ _ _) (Or.inl ⟨(wanted0 og1), fun w' _ => y_move _ _ oo1 (G0.tmp 8 _ rfl)⟩) (fun _ => hHeld) ?_
  rw [od1]
  have G1 := G0.put 220 (.slice (some ⟨bL, 0, none⟩) 2 2) (by decide) (by decide)
  obtain ⟨b1, hb⟩ : ∃ x, Act.put b0 (some 220) (.slice (some ⟨bL, 0, none⟩) 2 2) = x := ⟨_, rfl⟩
  rw [hb] at G1 ⊢
  clear hb G0
  refine wpAnyK_take0 2 (v := .int .i64 (i : Int)) (oq_drop 2 (by decide)) (by as_aux_lemma => kernel_rfl) (hQ _ _) (Or.inl ⟨(wanted0 og2), fun w' _ => y_move _ _ oo2 (G1.tmp 18 _ rfl)⟩) (fun _ => hHeld) ?_
  rw [od2]
  have G2 := G1.put 221 (.int .i64 (i : Int)) (by decide) (by decide)
  obtain ⟨b2, hb⟩ : ∃ x, Act.put b1 (some 221) (.int .i64 (i : Int)) = x := ⟨_, rfl⟩
  rw [hb] at G2 ⊢
  clear hb G1
  refine wpAnyK_take0 3 (v := .pointer (some ⟨bL, i * 15, none⟩)) (oq_drop 3 (by decide)) (by as_aux_lemma => kernel_rfl) (hQ _ _) (Or.inl ⟨(wanted0 og3), fun w' _ => y_idxC _ _ bL 2 i 2 oo3 (G2.tmp 220 _ rfl) (G2.tmp 221 _ rfl) hi⟩) (fun _ => hHeld) ?_
  rw [od3]
  have G3 := G2.put 222 (.pointer (some ⟨bL, i * 15, none⟩)) (by decide) (by decide)
  obtain ⟨b3, hb⟩ : ∃ x, Act.put b2 (some 222) (.pointer (some ⟨bL, i * 15, none⟩)) = x := ⟨_, rfl⟩
  rw [hb] at G3 ⊢
  clear hb G2
  refine wpAnyK_take0 4 (v := .pointer (some ⟨bL, i * 15 + 5, none⟩)) (oq_drop 4 (by decide)) (by as_aux_lemma => kernel_rfl) (hQ _ _) (Or.inl ⟨(wanted0 og4), fun w' _ => y_fld _ bL (i * 15) oo4 (G3.tmp 222 _ rfl)⟩) (fun _ => hHeld) ?_
  rw [od4]
  have G4 := G3.put 223 (.pointer (some ⟨bL, i * 15 + 5, none⟩)) (by decide) (by decide)
  obtain ⟨b4, hb⟩ : ∃ x, Act.put b3 (some 223) (.pointer (some ⟨bL, i * 15 + 5, none⟩)) = x := ⟨_, rfl⟩
  rw [hb] at G4 ⊢
  clear hb G3
  refine wpAnyK_take 5 (v := .slice (ao) n ca) [6, 7, 8, 40, 41, 64] (oq_drop 5 (by decide)) (by as_aux_lemma => kernel_rfl) (hQ _ _) (Or.inl ⟨(wanted0 og5), fun w' hSw => y_ldS _ _ _ _ _ oo5 (G4.tmp 223 _ rfl) hSw.1⟩) hHeld ?_
  rw [od5]
  have G5 := G4.put 224 (.slice (ao) n ca) (by decide) (by decide)
  obtain ⟨b5, hb⟩ : ∃ x, Act.put b4 (some 224) (.slice (ao) n ca) = x := ⟨_, rfl⟩
  rw [hb] at G5 ⊢
  clear hb G4
  refine wpAnyK_take0 6 (v := .int .i64 (n : Int)) (oq_drop 6 (by decide)) (by as_aux_lemma => kernel_rfl) (hQ _ _) (Or.inl ⟨(wanted0 og6), fun w' _ => y_len _ _ _ _ _ oo6 (G5.tmp 224 _ rfl) ⟨_, Tryz.underlying24⟩⟩) (fun _ => hHeld) ?_
  rw [od6]
  have G6 := G5.put 225 (.int .i64 (n : Int)) (by decide) (by decide)
  obtain ⟨b6, hb⟩ : ∃ x, Act.put b5 (some 225) (.int .i64 (n : Int)) = x := ⟨_, rfl⟩
  rw [hb] at G6 ⊢
  clear hb G5
  refine wpAnyK_take0 7 (v := .bool false) (oq_drop 7 (by decide)) (by as_aux_lemma => kernel_rfl) (hQ _ _) (Or.inl ⟨(wanted0 og7), fun w' _ => y_lss _ _ _ _ _ oo7 (G6.tmp 219 _ rfl) (G6.tmp 225 _ rfl) (decide_eq_false (by omega))⟩) (fun _ => hHeld) ?_
  rw [od7]
  have G7 := G6.put 226 (.bool false) (by decide) (by decide)
  obtain ⟨b7, hb⟩ : ∃ x, Act.put b6 (some 226) (.bool false) = x := ⟨_, rfl⟩
  rw [hb] at G7 ⊢
  clear hb G6
  refine wpAnyK_take0 8 (v := .bool false) (oq_drop 8 (by decide)) (by as_aux_lemma => kernel_rfl) (hQ _ _) (Or.inl ⟨(wanted0 og8), fun w' _ => y_move _ _ oo8 (G7.tmp 226 _ rfl)⟩) (fun _ => hHeld) ?_
  rw [od8]
  have G8 := G7.put 227 (.bool false) (by decide) (by decide)
  obtain ⟨b8, hb⟩ : ∃ x, Act.put b7 (some 227) (.bool false) = x := ⟨_, rfl⟩
  rw [hb] at G8 ⊢
  clear hb G7
  refine wpAnyK_take0 9 (v := undef) (oq_drop 9 (by decide)) (by as_aux_lemma => kernel_rfl) (hQ _ _) (Or.inr ⟨(wanted1 G8 8 true 227 false og9 ob8 rfl), rfl⟩) (fun _ => hHeld) ?_
  rw [od9]
  have G9 := G8.put 228 (undef) (by decide) (by decide)
  obtain ⟨b9, hb⟩ : ∃ x, Act.put b8 (some 228) (undef) = x := ⟨_, rfl⟩
  rw [hb] at G9 ⊢
  clear hb G8
  refine wpAnyK_take0 10 (v := undef) (oq_drop 10 (by decide)) (by as_aux_lemma => kernel_rfl) (hQ _ _) (Or.inr ⟨(wanted1 G9 8 true 227 false og10 ob8 rfl), rfl⟩) (fun _ => hHeld) ?_
  rw [od10]
  have G10 := G9.put 229 (undef) (by decide) (by decide)
  obtain ⟨b10, hb⟩ : ∃ x, Act.put b9 (some 229) (undef) = x := ⟨_, rfl⟩
  rw [hb] at G10 ⊢
  clear hb G9
  refine wpAnyK_take0 11 (v := undef) (oq_drop 11 (by decide)) (by as_aux_lemma => kernel_rfl) (hQ _ _) (Or.inr ⟨(wanted1 G10 8 true 227 false og11 ob8 rfl), rfl⟩) (fun _ => hHeld) ?_
  rw [od11]
  have G11 := G10.put 230 (undef) (by decide) (by decide)
  obtain ⟨b11, hb⟩ : ∃ x, Act.put b10 (some 230) (undef) = x := ⟨_, rfl⟩
  rw [hb] at G11 ⊢
  clear hb G10
  refine wpAnyK_take0 12 (v := undef) (oq_drop 12 (by decide)) (by as_aux_lemma => kernel_rfl) (hQ _ _) (Or.inr ⟨(wanted1 G11 8 true 227 false og12 ob8 rfl), rfl⟩) (fun _ => hHeld) ?_
  rw [od12]
  have G12 := G11.put 231 (undef) (by decide) (by decide)
  obtain ⟨b12, hb⟩ : ∃ x, Act.put b11 (some 231) (undef) = x := ⟨_, rfl⟩
  rw [hb] at G12 ⊢
  clear hb G11
  refine wpAnyK_take0 13 (v := undef) (oq_drop 13 (by decide)) (by as_aux_lemma => kernel_rfl) (hQ _ _) (Or.inr ⟨(wanted1 G12 8 true 227 false og13 ob8 rfl), rfl⟩) (fun _ => hHeld) ?_
  rw [od13]
  have G13 := G12.put 232 (undef) (by decide) (by decide)
  obtain ⟨b13, hb⟩ : ∃ x, Act.put b12 (some 232) (undef) = x := ⟨_, rfl⟩
  rw [hb] at G13 ⊢
  clear hb G12
  refine wpAnyK_take0 14 (v := undef) (oq_drop 14 (by decide)) (by as_aux_lemma => kernel_rfl) (hQ _ _) (Or.inr ⟨(wanted1 G13 8 true 227 false og14 ob8 rfl), rfl⟩) (fun _ => hHeld) ?_
  rw [od14]
  have G14 := G13.put 233 (undef) (by decide) (by decide)
  obtain ⟨b14, hb⟩ : ∃ x, Act.put b13 (some 233) (undef) = x := ⟨_, rfl⟩
  rw [hb] at G14 ⊢
  clear hb G13
  refine wpAnyK_take0 15 (v := undef) (oq_drop 15 (by decide)) (by as_aux_lemma => kernel_rfl) (hQ _ _) (Or.inr ⟨(wanted1 G14 8 true 227 false og15 ob8 rfl), rfl⟩) (fun _ => hHeld) ?_
  rw [od15]
  have G15 := G14.put 234 (undef) (by decide) (by decide)
  obtain ⟨b15, hb⟩ : ∃ x, Act.put b14 (some 234) (undef) = x := ⟨_, rfl⟩
  rw [hb] at G15 ⊢
  clear hb G14
  refine wpAnyK_take0 16 (v := undef) (oq_drop 16 (by decide)) (by as_aux_lemma => kernel_rfl) (hQ _ _) (Or.inr ⟨(wanted1 G15 8 true 227 false og16 ob8 rfl), rfl⟩) (fun _ => hHeld) ?_
  rw [od16]
  have G16 := G15.put 235 (undef) (by decide) (by decide)
  obtain ⟨b16, hb⟩ : ∃ x, Act.put b15 (some 235) (undef) = x := ⟨_, rfl⟩
  rw [hb] at G16 ⊢
  clear hb G15
  refine wpAnyK_take0 18 (v := undef) (oq_drop 18 (by decide)) (by as_aux_lemma => kernel_rfl) (hQ _ _) (Or.inr ⟨(wanted1 G16 8 true 227 false og18 ob8 rfl), rfl⟩) (fun _ => hHeld) ?_
  rw [od18]
  have G18 := G16.put 237 (undef) (by decide) (by decide)
  obtain ⟨b18, hb⟩ : ∃ x, Act.put b16 (some 237) (undef) = x := ⟨_, rfl⟩
  rw [hb] at G18 ⊢
  clear hb G16
  refine wpAnyK_take0 17 (v := undef) (oq_drop 17 (by decide)) (by as_aux_lemma => kernel_rfl) (hQ _ _) (Or.inr ⟨(wanted1 G18 8 true 227 false og17 ob8 rfl), rfl⟩) (fun _ => hHeld) ?_
  rw [od17]
  have G17 := G18.put 236 (undef) (by decide) (by decide)
  obtain ⟨b17, hb⟩ : ∃ x, Act.put b18 (some 236) (undef) = x := ⟨_, rfl⟩
  rw [hb] at G17 ⊢
  clear hb G18
  refine wpAnyK_take0 19 (v := undef) (oq_drop 19 (by decide)) (by as_aux_lemma => kernel_rfl) (hQ _ _) (Or.inr ⟨(wanted1 G17 8 true 227 false og19 ob8 rfl), rfl⟩) (fun _ => hHeld) ?_
  rw [od19]
  have G19 := G17.put 238 (undef) (by decide) (by decide)
  obtain ⟨b19, hb⟩ : ∃ x, Act.put b17 (some 238) (undef) = x := ⟨_, rfl⟩
  rw [hb] at G19 ⊢
  clear hb G17
  refine wpAnyK_take0 20 (v := undef) (oq_drop 20 (by decide)) (by as_aux_lemma => kernel_rfl) (hQ _ _) (Or.inr ⟨(wanted1 G19 8 true 227 false og20 ob8 rfl), rfl⟩) (fun _ => hHeld) ?_
  rw [od20]
  have G20 := G19.put 239 (undef) (by decide) (by decide)
  obtain ⟨b20, hb⟩ : ∃ x, Act.put b19 (some 239) (undef) = x := ⟨_, rfl⟩
  rw [hb] at G20 ⊢
  clear hb G19
  refine wpAnyK_take0 21 (v := undef) (oq_drop 21 (by decide)) (by as_aux_lemma => kernel_rfl) (hQ _ _) (Or.inr ⟨(wanted1 G20 8 true 227 false og21 ob8 rfl), rfl⟩) (fun _ => hHeld) ?_
  rw [od21]
  have G21 := G20.put 240 (undef) (by decide) (by decide)
  obtain ⟨b21, hb⟩ : ∃ x, Act.put b20 (some 240) (undef) = x := ⟨_, rfl⟩
  rw [hb] at G21 ⊢
  clear hb G20
  refine wpAnyK_take0 22 (v := undef) (oq_drop 22 (by decide)) (by as_aux_lemma => kernel_rfl) (hQ _ _) (Or.inr ⟨(wanted1 G21 8 true 227 false og22 ob8 rfl), rfl⟩) (fun _ => hHeld) ?_
  rw [od22]
  have G22 := G21.put 241 (undef) (by decide) (by decide)
  obtain ⟨b22, hb⟩ : ∃ x, Act.put b21 (some 241) (undef) = x := ⟨_, rfl⟩
  rw [hb] at G22 ⊢
  clear hb G21
  refine wpAnyK_take0 23 (v := undef) (oq_drop 23 (by decide)) (by as_aux_lemma => kernel_rfl) (hQ _ _) (Or.inr ⟨(wantedU G22 22 false 241 og23 ob22 rfl), rfl⟩) (fun _ => hHeld) ?_
  rw [od23]
  have G23 := G22.put 242 (undef) (by decide) (by decide)
  obtain ⟨b23, hb⟩ : ∃ x, Act.put b22 (some 242) (undef) = x := ⟨_, rfl⟩
  rw [hb] at G23 ⊢
  clear hb G22
  refine wpAnyK_take0 24 (v := undef) (oq_drop 24 (by decide)) (by as_aux_lemma => kernel_rfl) (hQ _ _) (Or.inr ⟨(wantedU G23 22 false 241 og24 ob22 rfl), rfl⟩) (fun _ => hHeld) ?_
  rw [od24]
  have G24 := G23.put 243 (undef) (by decide) (by decide)
  obtain ⟨b24, hb⟩ : ∃ x, Act.put b23 (some 243) (undef) = x := ⟨_, rfl⟩
  rw [hb] at G24 ⊢
  clear hb G23
  refine wpAnyK_take0 25 (v := undef) (oq_drop 25 (by decide)) (by as_aux_lemma => kernel_rfl) (hQ _ _) (Or.inr ⟨(wantedU G24 22 false 241 og25 ob22 rfl), rfl⟩) (fun _ => hHeld) ?_
  rw [od25]
  have G25 := G24.put 244 (undef) (by decide) (by decide)
  obtain ⟨b25, hb⟩ : ∃ x, Act.put b24 (some 244) (undef) = x := ⟨_, rfl⟩
  rw [hb] at G25 ⊢
  clear hb G24
  refine wpAnyK_take0 26 (v := undef) (oq_drop 26 (by decide)) (by as_aux_lemma => kernel_rfl) (hQ _ _) (Or.inr ⟨(wantedU G25 22 false 241 og26 ob22 rfl), rfl⟩) (fun _ => hHeld) ?_
  rw [od26]
  have G26 := G25.put 245 (undef) (by decide) (by decide)
  obtain ⟨b26, hb⟩ : ∃ x, Act.put b25 (some 245) (undef) = x := ⟨_, rfl⟩
  rw [hb] at G26 ⊢
  clear hb G25
  refine wpAnyK_take0 27 (v := undef) (oq_drop 27 (by decide)) (by as_aux_lemma => kernel_rfl) (hQ _ _) (Or.inr ⟨(wantedU G26 22 false 241 og27 ob22 rfl), rfl⟩) (fun _ => hHeld) ?_
  rw [od27]
  have G27 := G26.put 246 (undef) (by decide) (by decide)
  obtain ⟨b27, hb⟩ : ∃ x, Act.put b26 (some 246) (undef) = x := ⟨_, rfl⟩
  rw [hb] at G27 ⊢
  clear hb G26
  refine wpAnyK_take0 28 (v := undef) (oq_drop 28 (by decide)) (by as_aux_lemma => kernel_rfl) (hQ _ _) (Or.inr ⟨(wantedU G27 22 false 241 og28 ob22 rfl), rfl⟩) (fun _ => hHeld) ?_
  rw [od28]
  have G28 := G27.put 247 (undef) (by decide) (by decide)
  obtain ⟨b28, hb⟩ : ∃ x, Act.put b27 (some 247) (undef) = x := ⟨_, rfl⟩
  rw [hb] at G28 ⊢
  clear hb G27
  refine wpAnyK_take0 29 (v := undef) (oq_drop 29 (by decide)) (by as_aux_lemma => kernel_rfl) (hQ _ _) (Or.inr ⟨(wantedU G28 22 false 241 og29 ob22 rfl), rfl⟩) (fun _ => hHeld) ?_
  rw [od29]
  have G29 := G28.put 248 (undef) (by decide) (by decide)
  obtain ⟨b29, hb⟩ : ∃ x, Act.put b28 (some 248) (undef) = x := ⟨_, rfl⟩
  rw [hb] at G29 ⊢
  clear hb G28
  refine wpAnyK_take0 30 (v := undef) (oq_drop 30 (by decide)) (by as_aux_lemma => kernel_rfl) (hQ _ _) (Or.inr ⟨(wantedU G29 22 false 241 og30 ob22 rfl), rfl⟩) (fun _ => hHeld) ?_
  rw [od30]
  have G30 := G29.put 249 (undef) (by decide) (by decide)
  obtain ⟨b30, hb⟩ : ∃ x, Act.put b29 (some 249) (undef) = x := ⟨_, rfl⟩
  rw [hb] at G30 ⊢
  clear hb G29
  refine wpAnyK_take0 31 (v := undef) (oq_drop 31 (by decide)) (by as_aux_lemma => kernel_rfl) (hQ _ _) (Or.inr ⟨(wantedU G30 22 false 241 og31 ob22 rfl), rfl⟩) (fun _ => hHeld) ?_
  rw [od31]
  have G31 := G30.put 250 (undef) (by decide) (by decide)
  obtain ⟨b31, hb⟩ : ∃ x, Act.put b30 (some 250) (undef) = x := ⟨_, rfl⟩
  rw [hb] at G31 ⊢
  clear hb G30
  refine wpAnyK_take0 32 (v := undef) (oq_drop 32 (by decide)) (by as_aux_lemma => kernel_rfl) (hQ _ _) (Or.inr ⟨(wantedU G31 22 false 241 og32 ob22 rfl), rfl⟩) (fun _ => hHeld) ?_
  rw [od32]
  have G32 := G31.put 251 (undef) (by decide) (by decide)
  obtain ⟨b32, hb⟩ : ∃ x, Act.put b31 (some 251) (undef) = x := ⟨_, rfl⟩
  rw [hb] at G32 ⊢
  clear hb G31
  refine wpAnyK_take0 33 (v := undef) (oq_drop 33 (by decide)) (by as_aux_lemma => kernel_rfl) (hQ _ _) (Or.inr ⟨(wantedU G32 22 false 241 og33 ob22 rfl), rfl⟩) (fun _ => hHeld) ?_
  rw [od33]
  have G33 := G32.put 252 (undef) (by decide) (by decide)
  obtain ⟨b33, hb⟩ : ∃ x, Act.put b32 (some 252) (undef) = x := ⟨_, rfl⟩
  rw [hb] at G33 ⊢
  clear hb G32
  refine wpAnyK_take0 34 (v := undef) (oq_drop 34 (by decide)) (by as_aux_lemma => kernel_rfl) (hQ _ _) (Or.inr ⟨(wantedU G33 22 false 241 og34 ob22 rfl), rfl⟩) (fun _ => hHeld) ?_
  rw [od34]
  have G34 := G33.put 253 (undef) (by decide) (by decide)
  obtain ⟨b34, hb⟩ : ∃ x, Act.put b33 (some 253) (undef) = x := ⟨_, rfl⟩
  rw [hb] at G34 ⊢
  clear hb G33
  refine wpAnyK_take0 35 (v := undef) (oq_drop 35 (by decide)) (by as_aux_lemma => kernel_rfl) (hQ _ _) (Or.inr ⟨(wantedU G34 22 false 241 og35 ob22 rfl), rfl⟩) (fun _ => hHeld) ?_
  rw [od35]
  have G35 := G34.put 254 (undef) (by decide) (by decide)
  obtain ⟨b35, hb⟩ : ∃ x, Act.put b34 (some 254) (undef) = x := ⟨_, rfl⟩
  rw [hb] at G35 ⊢
  clear hb G34
  refine wpAnyK_take0 36 (v := undef) (oq_drop 36 (by decide)) (by as_aux_lemma => kernel_rfl) (hQ _ _) (Or.inr ⟨(wantedU G35 22 false 241 og36 ob22 rfl), rfl⟩) (fun _ => hHeld) ?_
  rw [od36]
  have G36 := G35.put 255 (undef) (by decide) (by decide)
  obtain ⟨b36, hb⟩ : ∃ x, Act.put b35 (some 255) (undef) = x := ⟨_, rfl⟩
  rw [hb] at G36 ⊢
  clear hb G35
  refine wpAnyK_take0 37 (v := undef) (oq_drop 37 (by decide)) (by as_aux_lemma => kernel_rfl) (hQ _ _) (Or.inr ⟨(wantedU G36 22 false 241 og37 ob22 rfl), rfl⟩) (fun _ => hHeld) ?_
  rw [od37]
  have G37 := G36.put 256 (undef) (by decide) (by decide)
  obtain ⟨b37, hb⟩ : ∃ x, Act.put b36 (some 256) (undef) = x := ⟨_, rfl⟩
  rw [hb] at G37 ⊢
  clear hb G36
  refine wpAnyK_take0 38 (v := undef) (oq_drop 38 (by decide)) (by as_aux_lemma => kernel_rfl) (hQ _ _) (Or.inr ⟨(wantedU G37 22 false 241 og38 ob22 rfl), rfl⟩) (fun _ => hHeld) ?_
  rw [od38]
  have G38 := G37.put 257 (undef) (by decide) (by decide)
  obtain ⟨b38, hb⟩ : ∃ x, Act.put b37 (some 257) (undef) = x := ⟨_, rfl⟩
  rw [hb] at G38 ⊢
  clear hb G37
  refine wpAnyK_take0 39 (v := undef) (oq_drop 39 (by decide)) (by as_aux_lemma => kernel_rfl) (hQ _ _) (Or.inr ⟨(wanted1 G38 8 true 227 false og39 ob8 rfl), rfl⟩) (fun _ => hHeld) ?_
  rw [od39]
  have G39 := G38.put 258 (undef) (by decide) (by decide)
  obtain ⟨b39, hb⟩ : ∃ x, Act.put b38 (some 258) (undef) = x := ⟨_, rfl⟩
  rw [hb] at G39 ⊢
  clear hb G38
  refine wpAnyK_take0 40 (v := .bool false) (oq_drop 40 (by decide)) (by as_aux_lemma => kernel_rfl) (hQ _ _) (Or.inl ⟨(wanted0 og40), fun w' _ => y_pick _ _ _ false _ oo40 (G39.tmp 227 _ rfl) rfl⟩) (fun _ => hHeld) ?_
  rw [od40]
  have G40 := G39.put 259 (.bool false) (by decide) (by decide)
  obtain ⟨b40, hb⟩ : ∃ x, Act.put b39 (some 259) (.bool false) = x := ⟨_, rfl⟩
  rw [hb] at G40 ⊢
  clear hb G39
  refine wpAnyK_take0 41 (v := .bool false) (oq_drop 41 (by decide)) (by as_aux_lemma => kernel_rfl) (hQ _ _) (Or.inl ⟨(wanted0 og41), fun w' _ => y_move _ _ oo41 (G40.tmp 259 _ rfl)⟩) (fun _ => hHeld) ?_
  rw [od41]
  have G41 := G40.put 260 (.bool false) (by decide) (by decide)
  obtain ⟨b41, hb⟩ : ∃ x, Act.put b40 (some 260) (.bool false) = x := ⟨_, rfl⟩
  rw [hb] at G41 ⊢
  clear hb G40
  refine wpAnyK_take0 42 (v := .int .i64 (k : Int)) (oq_drop 42 (by decide)) (by as_aux_lemma => kernel_rfl) (hQ _ _) (Or.inl ⟨(wanted1 G41 41 false 260 false og42 ob41 rfl), fun w' _ => y_move _ _ oo42 (G41.tmp 20 _ rfl)⟩) (fun _ => hHeld) ?_
  rw [od42]
  have G42 := G41.put 261 (.int .i64 (k : Int)) (by decide) (by decide)
  obtain ⟨b42, hb⟩ : ∃ x, Act.put b41 (some 261) (.int .i64 (k : Int)) = x := ⟨_, rfl⟩
  rw [hb] at G42 ⊢
  clear hb G41
  refine wpAnyK_take0 43 (v := .slice (some ⟨bL, 0, none⟩) 2 2) (oq_drop 43 (by decide)) (by as_aux_lemma => kernel_rfl) (hQ _ _) (Or.inl ⟨(wanted1 G42 41 false 260 false og43 ob41 rfl), fun w' _ => y_move _ _ oo43 (G42.tmp 8 _ rfl)⟩) (fun _ => hHeld) ?_
  rw [od43]
  have G43 := G42.put 262 (.slice (some ⟨bL, 0, none⟩) 2 2) (by decide) (by decide)
  obtain ⟨b43, hb⟩ : ∃ x, Act.put b42 (some 262) (.slice (some ⟨bL, 0, none⟩) 2 2) = x := ⟨_, rfl⟩
  rw [hb] at G43 ⊢
  clear hb G42
  refine wpAnyK_take0 44 (v := .int .i64 (i : Int)) (oq_drop 44 (by decide)) (by as_aux_lemma => kernel_rfl) (hQ _ _) (Or.inl ⟨(wanted1 G43 41 false 260 false og44 ob41 rfl), fun w' _ => y_move _ _ oo44 (G43.tmp 18 _ rfl)⟩) (fun _ => hHeld) ?_
  rw [od44]
  have G44 := G43.put 263 (.int .i64 (i : Int)) (by decide) (by decide)
  obtain ⟨b44, hb⟩ : ∃ x, Act.put b43 (some 263) (.int .i64 (i : Int)) = x := ⟨_, rfl⟩
  rw [hb] at G44 ⊢
  clear hb G43
  refine wpAnyK_take0 45 (v := .pointer (some ⟨bL, i * 15, none⟩)) (oq_drop 45 (by decide)) (by as_aux_lemma => kernel_rfl) (hQ _ _) (Or.inl ⟨(wanted1 G44 41 false 260 false og45 ob41 rfl), fun w' _ => y_idxC _ _ bL 2 i 2 oo45 (G44.tmp 262 _ rfl) (G44.tmp 263 _ rfl) hi⟩) (fun _ => hHeld) ?_
  rw [od45]
  have G45 := G44.put 264 (.pointer (some ⟨bL, i * 15, none⟩)) (by decide) (by decide)
  obtain ⟨b45, hb⟩ : ∃ x, Act.put b44 (some 264) (.pointer (some ⟨bL, i * 15, none⟩)) = x := ⟨_, rfl⟩
  rw [hb] at G45 ⊢
  clear hb G44
  refine wpAnyK_take0 46 (v := .pointer (some ⟨bL, i * 15 + 5, none⟩)) (oq_drop 46 (by decide)) (by as_aux_lemma => kernel_rfl) (hQ _ _) (Or.inl ⟨(wanted1 G45 41 false 260 false og46 ob41 rfl), fun w' _ => y_fld _ bL (i * 15) oo46 (G45.tmp 264 _ rfl)⟩) (fun _ => hHeld) ?_
  rw [od46]
  have G46 := G45.put 265 (.pointer (some ⟨bL, i * 15 + 5, none⟩)) (by decide) (by decide)
  obtain ⟨b46, hb⟩ : ∃ x, Act.put b45 (some 265) (.pointer (some ⟨bL, i * 15 + 5, none⟩)) = x := ⟨_, rfl⟩
  rw [hb] at G46 ⊢
  clear hb G45
  refine wpAnyK_take 47 (v := .slice (ao) n ca) [48, 49, 50, 63, 64] (oq_drop 47 (by decide)) (by as_aux_lemma => kernel_rfl) (hQ _ _) (Or.inl ⟨(wanted1 G46 41 false 260 false og47 ob41 rfl), fun w' hSw => y_ldS _ _ _ _ _ oo47 (G46.tmp 265 _ rfl) hSw.1⟩) hHeld ?_
  rw [od47]
  have G47 := G46.put 266 (.slice (ao) n ca) (by decide) (by decide)
  obtain ⟨b47, hb⟩ : ∃ x, Act.put b46 (some 266) (.slice (ao) n ca) = x := ⟨_, rfl⟩
  rw [hb] at G47 ⊢
  clear hb G46
  refine wpAnyK_take0 48 (v := .int .i64 (n : Int)) (oq_drop 48 (by decide)) (by as_aux_lemma => kernel_rfl) (hQ _ _) (Or.inl ⟨(wanted1 G47 41 false 260 false og48 ob41 rfl), fun w' _ => y_len _ _ _ _ _ oo48 (G47.tmp 266 _ rfl) ⟨_, Tryz.underlying24⟩⟩) (fun _ => hHeld) ?_
  rw [od48]
  have G48 := G47.put 267 (.int .i64 (n : Int)) (by decide) (by decide)
  obtain ⟨b48, hb⟩ : ∃ x, Act.put b47 (some 267) (.int .i64 (n : Int)) = x := ⟨_, rfl⟩
  rw [hb] at G48 ⊢
  clear hb G47
  refine wpAnyK_take0 49 (v := .bool true) (oq_drop 49 (by decide)) (by as_aux_lemma => kernel_rfl) (hQ _ _) (Or.inl ⟨(wanted1 G48 41 false 260 false og49 ob41 rfl), fun w' _ => y_geq _ _ _ _ _ oo49 (G48.tmp 261 _ rfl) (G48.tmp 267 _ rfl) (decide_eq_true (by omega))⟩) (fun _ => hHeld) ?_
  rw [od49]
  have G49 := G48.put 268 (.bool true) (by decide) (by decide)
  obtain ⟨b49, hb⟩ : ∃ x, Act.put b48 (some 268) (.bool true) = x := ⟨_, rfl⟩
  rw [hb] at G49 ⊢
  clear hb G48
  refine wpAnyK_take0 50 (v := .bool true) (oq_drop 50 (by decide)) (by as_aux_lemma => kernel_rfl) (hQ _ _) (Or.inl ⟨(wanted1 G49 41 false 260 false og50 ob41 rfl), fun w' _ => y_move _ _ oo50 (G49.tmp 268 _ rfl)⟩) (fun _ => hHeld) ?_
  rw [od50]
  have G50 := G49.put 269 (.bool true) (by decide) (by decide)
  obtain ⟨b50, hb⟩ : ∃ x, Act.put b49 (some 269) (.bool true) = x := ⟨_, rfl⟩
  rw [hb] at G50 ⊢
  clear hb G49
  refine wpAnyK_take0 51 (v := .slice (some ⟨tA, 0, none⟩) 2 tc) (oq_drop 51 (by decide)) (by as_aux_lemma => kernel_rfl) (hQ _ _) (Or.inl ⟨(wanted1 G50 50 true 269 true og51 ob50 rfl), fun w' _ => y_move _ _ oo51 (G50.tmp 13 _ rfl)⟩) (fun _ => hHeld) ?_
  rw [od51]
  have G51 := G50.put 270 (.slice (some ⟨tA, 0, none⟩) 2 tc) (by decide) (by decide)
  obtain ⟨b51, hb⟩ : ∃ x, Act.put b50 (some 270) (.slice (some ⟨tA, 0, none⟩) 2 tc) = x := ⟨_, rfl⟩
  rw [hb] at G51 ⊢
  clear hb G50
  refine wpAnyK_take0 52 (v := .int .i64 (i : Int)) (oq_drop 52 (by decide)) (by as_aux_lemma => kernel_rfl) (hQ _ _) (Or.inl ⟨(wanted1 G51 50 true 269 true og52 ob50 rfl), fun w' _ => y_move _ _ oo52 (G51.tmp 18 _ rfl)⟩) (fun _ => hHeld) ?_
  rw [od52]
  have G52 := G51.put 271 (.int .i64 (i : Int)) (by decide) (by decide)
  obtain ⟨b52, hb⟩ : ∃ x, Act.put b51 (some 271) (.int .i64 (i : Int)) = x := ⟨_, rfl⟩
  rw [hb] at G52 ⊢
  clear hb G51
  refine wpAnyK_take0 53 (v := .pointer (some ⟨tA, i, none⟩)) (oq_drop 53 (by decide)) (by as_aux_lemma => kernel_rfl) (hQ _ _) (Or.inl ⟨(wanted1 G52 50 true 269 true og53 ob50 rfl), fun w' _ => y_idxS _ _ tA tc i 2 oo53 (G52.tmp 270 _ rfl) (G52.tmp 271 _ rfl) hi⟩) (fun _ => hHeld) ?_
  rw [od53]
  have G53 := G52.put 272 (.pointer (some ⟨tA, i, none⟩)) (by decide) (by decide)
  obtain ⟨b53, hb⟩ : ∃ x, Act.put b52 (some 272) (.pointer (some ⟨tA, i, none⟩)) = x := ⟨_, rfl⟩
  rw [hb] at G53 ⊢
  clear hb G52
  refine wpAnyK_take 54 (v := .slice (some ⟨hX, 0, none⟩) m hc) [56, 57, 62, 63, 64] (oq_drop 54 (by decide)) (by as_aux_lemma => kernel_rfl) (hQ _ _) (Or.inl ⟨(wanted1 G53 50 true 269 true og54 ob50 rfl), fun w' hSw => y_ldS _ _ _ _ _ oo54 (G53.tmp 272 _ rfl) hSw.2.1⟩) hHeld ?_
  rw [od54]
  have G54 := G53.put 273 (.slice (some ⟨hX, 0, none⟩) m hc) (by decide) (by decide)
  obtain ⟨b54, hb⟩ : ∃ x, Act.put b53 (some 273) (.slice (some ⟨hX, 0, none⟩) m hc) = x := ⟨_, rfl⟩
  rw [hb] at G54 ⊢
  clear hb G53
  refine wpAnyK_take0 55 (v := .int .i64 (k : Int)) (oq_drop 55 (by decide)) (by as_aux_lemma => kernel_rfl) (hQ _ _) (Or.inl ⟨(wanted1 G54 50 true 269 true og55 ob50 rfl), fun w' _ => y_move _ _ oo55 (G54.tmp 20 _ rfl)⟩) (fun _ => hHeld) ?_
  rw [od55]
  have G55 := G54.put 274 (.int .i64 (k : Int)) (by decide) (by decide)
  obtain ⟨b55, hb⟩ : ∃ x, Act.put b54 (some 274) (.int .i64 (k : Int)) = x := ⟨_, rfl⟩
  rw [hb] at G55 ⊢
  clear hb G54
  refine wpAnyK_take0 56 (v := .pointer (some ⟨hX, k, none⟩)) (oq_drop 56 (by decide)) (by as_aux_lemma => kernel_rfl) (hQ _ _) (Or.inl ⟨(wanted1 G55 50 true 269 true og56 ob50 rfl), fun w' _ => y_idxT _ _ hX hc k m oo56 (G55.tmp 273 _ rfl) (G55.tmp 274 _ rfl) hkm⟩) (fun _ => hHeld) ?_
  rw [od56]
  have G56 := G55.put 275 (.pointer (some ⟨hX, k, none⟩)) (by decide) (by decide)
  obtain ⟨b56, hb⟩ : ∃ x, Act.put b55 (some 275) (.pointer (some ⟨hX, k, none⟩)) = x := ⟨_, rfl⟩
  rw [hb] at G56 ⊢
  clear hb G55
  refine wpAnyK_take 57 (v := .string s) [62, 63, 64] (oq_drop 57 (by decide)) (by as_aux_lemma => kernel_rfl) (hQ _ _) (Or.inl ⟨(wanted1 G56 50 true 269 true og57 ob50 rfl), fun w' hSw => y_ldT _ _ _ oo57 (G56.tmp 275 _ rfl) hSw.2.2⟩) hHeld ?_
  rw [od57]
  have G57 := G56.put 276 (.string s) (by decide) (by decide)
  obtain ⟨b57, hb⟩ : ∃ x, Act.put b56 (some 276) (.string s) = x := ⟨_, rfl⟩
  rw [hb] at G57 ⊢
  clear hb G56
  refine wpAnyK_take0 59 (v := .int .i64 (i : Int)) (oq_drop 59 (by decide)) (by as_aux_lemma => kernel_rfl) (hQ _ _) (Or.inl ⟨(wanted1 G57 50 true 269 true og59 ob50 rfl), fun w' _ => y_move _ _ oo59 (G57.tmp 18 _ rfl)⟩) (fun _ => hHeld) ?_
  rw [od59]
  have G59 := G57.put 278 (.int .i64 (i : Int)) (by decide) (by decide)
  obtain ⟨b59, hb⟩ : ∃ x, Act.put b57 (some 278) (.int .i64 (i : Int)) = x := ⟨_, rfl⟩
  rw [hb] at G59 ⊢
  clear hb G57
  refine wpAnyK_step 58 (oq_drop 58 (by decide)) (by as_aux_lemma => kernel_rfl) (fun K hK => ?_)
  rw [if_pos (show Region.wanted _ _ = true from (wanted1 G59 50 true 269 true og58 ob50 rfl))]
  refine wp_yieldW (y_bld _ _ oo58 (fun _ => rfl)) ?_
  refine hK.out _ _ (fun _ => hH2) ?_
  clear hK K
  rw [od58]
  have G58 := G59.put 277 (.slice (some ⟨wd.heap.size, 0, none⟩) 2 2) (by decide) (by decide)
  obtain ⟨b58, hb⟩ : ∃ x, Act.put b59 (some 277) (.slice (some ⟨wd.heap.size, 0, none⟩) 2 2) = x := ⟨_, rfl⟩
  rw [hb] at G58 ⊢
  clear hb G59
  refine wpAnyK_take0 60 (v := .pointer (some ⟨wd.heap.size, i, none⟩)) (oq_drop 60 (by decide)) (by as_aux_lemma => kernel_rfl) (hQ _ _) (Or.inl ⟨(wanted1 G58 50 true 269 true og60 ob50 rfl), fun w' _ => y_idxT _ _ wd.heap.size 2 i 2 oo60 (G58.tmp 277 _ rfl) (G58.tmp 278 _ rfl) hi⟩) (fun _ => hH2) ?_
  rw [od60]
  have G60 := G58.put 279 (.pointer (some ⟨wd.heap.size, i, none⟩)) (by decide) (by decide)
  obtain ⟨b60, hb⟩ : ∃ x, Act.put b58 (some 279) (.pointer (some ⟨wd.heap.size, i, none⟩)) = x := ⟨_, rfl⟩
  rw [hb] at G60 ⊢
  clear hb G58
  refine wpAnyK_step 61 (oq_drop 61 (by decide)) (by as_aux_lemma => kernel_rfl) (fun K hK => ?_)
  rw [if_pos (show Region.wanted _ _ = true from (wanted1 G60 50 true 269 true og61 ob50 rfl))]
  refine wp_yieldW (y_ldT _ _ _ oo61 (G60.tmp 279 _ rfl) kLit) ?_
  refine hK.out _ _ (fun _ => hH2) ?_
  clear hK K
  rw [od61]
  have G61 := G60.put 280 (.string s) (by decide) (by decide)
  obtain ⟨b61, hb⟩ : ∃ x, Act.put b60 (some 280) (.string s) = x := ⟨_, rfl⟩
  rw [hb] at G61 ⊢
  clear hb G60
  refine wpAnyK_take0 62 (v := .bool false) (oq_drop 62 (by decide)) (by as_aux_lemma => kernel_rfl) (hQ _ _) (Or.inl ⟨(wanted1 G61 50 true 269 true og62 ob50 rfl), fun w' _ => y_neqs _ _ s oo62 (G61.tmp 276 _ rfl) (G61.tmp 280 _ rfl)⟩) (fun _ => hH2) ?_
  rw [od62]
  have G62 := G61.put 281 (.bool false) (by decide) (by decide)
  obtain ⟨b62, hb⟩ : ∃ x, Act.put b61 (some 281) (.bool false) = x := ⟨_, rfl⟩
  rw [hb] at G62 ⊢
  clear hb G61
  refine wpAnyK_take0 63 (v := .bool false) (oq_drop 63 (by decide)) (by as_aux_lemma => kernel_rfl) (hQ _ _) (Or.inl ⟨(wanted1 G62 41 false 260 false og63 ob41 rfl), fun w' _ => y_pick _ _ _ true _ oo63 (G62.tmp 269 _ rfl) (G62.tmp 281 _ rfl)⟩) (fun _ => hH2) ?_
  rw [od63]
  have G63 := G62.put 282 (.bool false) (by decide) (by decide)
  obtain ⟨b63, hb⟩ : ∃ x, Act.put b62 (some 282) (.bool false) = x := ⟨_, rfl⟩
  rw [hb] at G63 ⊢
  clear hb G62
  refine wpAnyK_step 64 (oq_drop 64 (by decide)) (by as_aux_lemma => kernel_rfl) (fun K hK => ?_)
  rw [if_pos (show Region.wanted _ _ = true from (wanted0 og64))]
  refine wp_yieldW (y_pick _ _ _ false _ oo64 (G63.tmp 260 _ rfl) (G63.tmp 282 _ rfl)) ?_
  refine hK.out _ _ (fun _ => hH2) ?_
  clear hK K
  rw [od64]
  have G64 := G63.put 283 (.bool false) (by decide) (by decide)
  obtain ⟨b64, hb⟩ : ∃ x, Act.put b63 (some 283) (.bool false) = x := ⟨_, rfl⟩
  rw [hb] at G64 ⊢
  clear hb G63
  refine wpAnyK_done (by as_aux_lemma => kernel_rfl) ?_ _
  exact h _ (G64.only 283 _ rfl)

theorem r45_use1 {Q : Exit → Act → World → Prop} {ds : List Deferred} {l : List Value} {w : World} (g : Nat) (bL tA hX n m ca hc tc i k : Nat) (s : ByteArray) (hi : i < 2) (hk : k < n) (hkm : k < m) (hs : ([⟨#[111, 110, 101]⟩, ⟨#[116, 119, 111]⟩] : List ByteArray)[i]? = some s)
    (hQ : ∀ (o : Option Tmp) (v : Value) c a w, Q (.panic c) (a.put o v) w → Q (.panic c) a w) (hl : l.length = 297) (h8 : l[8]? = some (.slice (some ⟨bL, 0, none⟩) 2 2)) (h18 : l[18]? = some (.int .i64 (i : Int))) (h20 : l[20]? = some (.int .i64 (k : Int))) (h13 : l[13]? = some (.slice (some ⟨tA, 0, none⟩) 2 tc))
    (hS : w.cell? ⟨bL, i * 15 + 5, none⟩ = some (.slice (some ⟨g, 0, none⟩) n ca) ∧ w.cell? ⟨tA, i, none⟩ = some (.slice (some ⟨hX, 0, none⟩) m hc) ∧ w.cell? ⟨g, k, none⟩ = some (.string s) ∧ w.cell? ⟨hX, k, none⟩ = some (.string s))
    (h : ∀ y0 y1 y2 y3 y4 y5 y6 y7 y8 y9 y10 y11 y12 y13 y14 y15 y16 y17 y18 y19 y20 y21 y22 y23 y24 y25 y26 y27 y28 y29 y30 y31 y32 y33 y34 y35 y36 y37 y38 y39 y40 y41 y42 y43 y44 y45 y46 y47 y48 y49 y50 y51 y52 y53 y54 y55 y56 y57 y58 y59 y60 y61 y62 y63 : Value, Q .normal ⟨(l.take 219 ++ ([y0, y1, y2, y3, y4, y5, y6, y7, y8, y9, y10, y11, y12, y13, y14, y15, y16, y17, y18, y19, y20, y21, y22, y23, y24, y25, y26, y27, y28, y29, y30, y31, y32, y33, y34, y35, y36, y37, y38, y39, y40, y41, y42, y43, y44, y45, y46, y47, y48, y49, y50, y51, y52, y53, y54, y55, y56, y57, y58, y59, y60, y61, y62, y63, .bool false] ++ l.drop 284)).toArray, ds⟩ ((World.drew w).alloc (Obj.cells #[.string ⟨#[111, 110, 101]⟩, .string ⟨#[116, 119, 111]⟩] 9))) : (Code.region 45 r45 true).wp Tryz.prog Q ⟨l.toArray, ds⟩ w := by
  refine r45_one (L := fun n => l[n]?) (ds := ds) (⟨l.toArray, ds⟩ : Act) w g bL tA hX n m ca hc tc i k s hi hk hkm hs hQ (Fs.of (b := ⟨l.toArray, ds⟩) (by simpa using hl) (fun n _ => by simp) rfl 8 18 20 13 _ _ _ _ (by simpa using h8) (by simpa using h18) (by simpa using h20) (by simpa using h13)) hS ?_
  intro b' hb
  obtain ⟨r, hr, h64, rfl⟩ := hb.list hl
  match r, hr with
  | y0 :: y1 :: y2 :: y3 :: y4 :: y5 :: y6 :: y7 :: y8 :: y9 :: y10 :: y11 :: y12 :: y13 :: y14 :: y15 :: y16 :: y17 :: y18 :: y19 :: y20 :: y21 :: y22 :: y23 :: y24 :: y25 :: y26 :: y27 :: y28 :: y29 :: y30 :: y31 :: y32 :: y33 :: y34 :: y35 :: y36 :: y37 :: y38 :: y39 :: y40 :: y41 :: y42 :: y43 :: y44 :: y45 :: y46 :: y47 :: y48 :: y49 :: y50 :: y51 :: y52 :: y53 :: y54 :: y55 :: y56 :: y57 :: y58 :: y59 :: y60 :: y61 :: y62 :: y63 :: y64 :: [], _ =>
    obtain rfl : y64 = .bool false := by simpa using h64
    exact h y0 y1 y2 y3 y4 y5 y6 y7 y8 y9 y10 y11 y12 y13 y14 y15 y16 y17 y18 y19 y20 y21 y22 y23 y24 y25 y26 y27 y28 y29 y30 y31 y32 y33 y34 y35 y36 y37 y38 y39 y40 y41 y42 y43 y44 y45 y46 y47 y48 y49 y50 y51 y52 y53 y54 y55 y56 y57 y58 y59 y60 y61 y62 y63

theorem r45_use2 {Q : Exit → Act → World → Prop} {ds : List Deferred} {l : List Value} {w : World} (ao : Option Addr) (bL tA hX n m ca hc tc i k : Nat) (s : ByteArray) (hi : i < 2) (hk : n ≤ k) (hkm : k < m) (hs : ([⟨#[116, 104, 114, 101, 101]⟩, ⟨#[102, 111, 117, 114]⟩] : List ByteArray)[i]? = some s)
    (hQ : ∀ (o : Option Tmp) (v : Value) c a w, Q (.panic c) (a.put o v) w → Q (.panic c) a w) (hl : l.length = 297) (h8 : l[8]? = some (.slice (some ⟨bL, 0, none⟩) 2 2)) (h18 : l[18]? = some (.int .i64 (i : Int))) (h20 : l[20]? = some (.int .i64 (k : Int))) (h13 : l[13]? = some (.slice (some ⟨tA, 0, none⟩) 2 tc))
    (hS : w.cell? ⟨bL, i * 15 + 5, none⟩ = some (.slice (ao) n ca) ∧ w.cell? ⟨tA, i, none⟩ = some (.slice (some ⟨hX, 0, none⟩) m hc) ∧ w.cell? ⟨hX, k, none⟩ = some (.string s))
    (h : ∀ y0 y1 y2 y3 y4 y5 y6 y7 y8 y9 y10 y11 y12 y13 y14 y15 y16 y17 y18 y19 y20 y21 y22 y23 y24 y25 y26 y27 y28 y29 y30 y31 y32 y33 y34 y35 y36 y37 y38 y39 y40 y41 y42 y43 y44 y45 y46 y47 y48 y49 y50 y51 y52 y53 y54 y55 y56 y57 y58 y59 y60 y61 y62 y63 : Value, Q .normal ⟨(l.take 219 ++ ([y0, y1, y2, y3, y4, y5, y6, y7, y8, y9, y10, y11, y12, y13, y14, y15, y16, y17, y18, y19, y20, y21, y22, y23, y24, y25, y26, y27, y28, y29, y30, y31, y32, y33, y34, y35, y36, y37, y38, y39, y40, y41, y42, y43, y44, y45, y46, y47, y48, y49, y50, y51, y52, y53, y54, y55, y56, y57, y58, y59, y60, y61, y62, y63, .bool false] ++ l.drop 284)).toArray, ds⟩ ((World.drew w).alloc (Obj.cells #[.string ⟨#[116, 104, 114, 101, 101]⟩, .string ⟨#[102, 111, 117, 114]⟩] 9))) : (Code.region 45 r45 true).wp Tryz.prog Q ⟨l.toArray, ds⟩ w := by
  refine r45_two (L := fun n => l[n]?) (ds := ds) (⟨l.toArray, ds⟩ : Act) w ao bL tA hX n m ca hc tc i k s hi hk hkm hs hQ (Fs.of (b := ⟨l.toArray, ds⟩) (by simpa using hl) (fun n _ => by simp) rfl 8 18 20 13 _ _ _ _ (by simpa using h8) (by simpa using h18) (by simpa using h20) (by simpa using h13)) hS ?_
  intro b' hb
  obtain ⟨r, hr, h64, rfl⟩ := hb.list hl
  match r, hr with
  | y0 :: y1 :: y2 :: y3 :: y4 :: y5 :: y6 :: y7 :: y8 :: y9 :: y10 :: y11 :: y12 :: y13 :: y14 :: y15 :: y16 :: y17 :: y18 :: y19 :: y20 :: y21 :: y22 :: y23 :: y24 :: y25 :: y26 :: y27 :: y28 :: y29 :: y30 :: y31 :: y32 :: y33 :: y34 :: y35 :: y36 :: y37 :: y38 :: y39 :: y40 :: y41 :: y42 :: y43 :: y44 :: y45 :: y46 :: y47 :: y48 :: y49 :: y50 :: y51 :: y52 :: y53 :: y54 :: y55 :: y56 :: y57 :: y58 :: y59 :: y60 :: y61 :: y62 :: y63 :: y64 :: [], _ =>
    obtain rfl : y64 = .bool false := by simpa using h64
    exact h y0 y1 y2 y3 y4 y5 y6 y7 y8 y9 y10 y11 y12 y13 y14 y15 y16 y17 y18 y19 y20 y21 y22 y23 y24 y25 y26 y27 y28 y29 y30 y31 y32 y33 y34 y35 y36 y37 y38 y39 y40 y41 y42 y43 y44 y45 y46 y47 y48 y49 y50 y51 y52 y53 y54 y55 y56 y57 y58 y59 y60 y61 y62 y63
theorem wp_region45 {ops : Array Oper} {Q : Exit → Act → World → Prop} {a : Act} {w : World} (h : ops = r45) (h2 : (Code.region 45 r45 true).wp Tryz.prog Q a w) : (Code.region 45 ops true).wp Tryz.prog Q a w := h ▸ h2

end Go.Proofs.YtjehkpndchadbaaGreatDoor
