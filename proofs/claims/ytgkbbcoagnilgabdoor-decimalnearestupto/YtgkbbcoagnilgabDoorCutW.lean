import Derived.Test.YtgkbbcoagnilgabDoorBackT
import Derived.Test.YtgkbbcoagnilgabDoorKeys
namespace Go.Proofs.YtgkbbcoagnilgabDoor
open Go.RowKit

/-- What stands ahead of the first dot, and behind it. -/
def dotA (l : List UInt8) : List UInt8 := l.takeWhile fun c => !(c == 46)
def dotB (l : List UInt8) : List UInt8 := (l.dropWhile fun c => !(c == 46)).tail

theorem dot_split (l : List UInt8) (k : Nat) (hk : k ≤ l.length) (h : ∀ j (hj : j < k), l[j] ≠ 46) : (k = l.length → dotA l = l ∧ dotB l = []) ∧ (∀ hk2 : k < l.length, l[k] = 46 → dotA l = l.take k ∧ dotB l = l.drop (k + 1)) := by
  induction l generalizing k with
  | nil =>
    have : k = 0 := by simpa using hk
    subst this
    exact ⟨fun _ => ⟨rfl, rfl⟩, fun h => by simp at h⟩
  | cons a t ih =>
    cases k with
    | zero =>
      refine ⟨fun e => by simp at e, fun _ he => ?_⟩
      have he' : a = 46 := by simpa using he
      subst he'
      exact ⟨by simp [dotA], by simp [dotB]⟩
    | succ k =>
      have ha : a ≠ 46 := by simpa using h 0 (by omega)
      have i := ih k (by simpa using hk) (fun j hj => by simpa using h (j + 1) (by omega))
      have e1 : dotA (a :: t) = a :: dotA t := by simp [dotA, ha]
      have e2 : dotB (a :: t) = dotB t := by simp [dotB, ha]
      rw [e1, e2]
      refine ⟨fun e => ?_, fun hk2 he => ?_⟩
      · obtain ⟨i1, i2⟩ := i.1 (by simpa using e)
        rw [i1, i2]; exact ⟨rfl, rfl⟩
      · obtain ⟨i1, i2⟩ := i.2 (by simpa using hk2) (by simpa using he)
        rw [i1, i2]; exact ⟨by simp, by simp⟩

set_option maxHeartbeats 1000000 in
theorem lcut_any (l : List UInt8) (w : World) (hlen : l.length ≤ 1073741824) :
    Calls Tryd.prog 22 #[.string ⟨l.toArray⟩] w fun e w' => e = .returned (.tuple #[.string ⟨(dotA l).toArray⟩, .string ⟨(dotB l).toArray⟩]) ∧ ∃ q, w' = w.drewN q := by
  go_enter Tryd.func22, Tryd.ntmps22
  go_wp2
  go_loop [4] (fun s4 => ∃ k : Nat, s4 = .int .i64 (k : Int) ∧ k ≤ l.length ∧ Hid (∀ j (hj : j < k) (hl : j < l.length), l[j] ≠ 46)) (fun s => l.length - (intOf s).toNat)
  case atStart => exact ⟨0, rfl, Nat.zero_le _, fun j hj => by omega⟩
  case round =>
    obtain ⟨k, rfl, hk, Hk⟩ := hrel
    by_cases hlt : k < l.length
    · obtain ⟨c, hc⟩ : ∃ c, l[k] = c := ⟨_, rfl⟩
      have gx : (ByteArray.mk l.toArray)[k]'(by show k < l.toArray.size; simpa using hlt) = c := by rw [← hc]; rfl
      by_cases h46 : c = 46
      · have Hd : Hid (dotA l = l.take k ∧ dotB l = l.drop (k + 1)) := (dot_split l k hk (fun j hj => Hk.out j hj (by omega))).2 hlt (hc.trans h46)
        have hq : ((c.toNat : Int) == 46) = true := by rw [h46]; rfl
        have p1 := pre_eq l k
        have p2 := suf_eq l (k + 1)
        clear hc h46
        go_wp2
        go_quiet (fail)
        go_wp2
        go_ret2
        rw [Hd.out.1, Hd.out.2]
        exact ⟨rfl, _, rfl⟩
      · have hq : ((c.toNat : Int) == 46) = false := by
          have : c.toNat ≠ 46 := fun e => h46 (UInt8.toNat_inj.1 e)
          simp; omega
        have Hk2 : Hid (∀ j (hj : j < k + 1) (hl : j < l.length), l[j] ≠ 46) := fun j hj hl => by
          by_cases e : j = k
          · subst e; rw [hc]; exact h46
          · exact Hk.out j (by omega) hl
        clear hc h46
        go_wp2
        go_round
        case rel => exact ⟨k + 1, by go_num, by omega, Hk2⟩
        case measure => simp [intOf]; omega
    · have Hd : Hid (dotA l = l ∧ dotB l = []) := (dot_split l k hk (fun j hj => Hk.out j hj (by omega))).1 (by omega)
      go_wp2
      go_ret2
      rw [Hd.out.1, Hd.out.2]
      exact ⟨rfl, 0, rfl⟩

end Go.Proofs.YtgkbbcoagnilgabDoor
