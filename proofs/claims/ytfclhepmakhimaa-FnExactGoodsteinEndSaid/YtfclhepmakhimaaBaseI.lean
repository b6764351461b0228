/- The program's digits of a number. -/
import Derived.Test.YtfclhepmakhimaaGoodN
import Derived.Test.YtfclhepmakhimaaMake
import Derived.Test.YtfclhepmakhimaaGdKit
namespace Go.Proofs.Ytfclhepmakhimaa
set_option maxRecDepth 100000
open Go.RowKit

/-- Reversed up to the place i. -/
def RevAt (xs ys : List Int) (i : Nat) : Prop :=
  ys.length = xs.length ∧ ∀ k, k < xs.length → ys[k]? = if k < i ∨ xs.length - i ≤ k then xs[xs.length - 1 - k]? else xs[k]?
theorem RevAt.start (xs : List Int) : RevAt xs xs 0 := ⟨rfl, fun k hk => by rw [if_neg (by omega)]⟩
theorem RevAt.done {xs ys : List Int} {i : Nat} (h : RevAt xs ys i) (hi : xs.length ≤ 2 * i + 1) : ys = xs.reverse := by
  refine List.ext_getElem? (fun k => ?_)
  rcases Nat.lt_or_ge k xs.length with hk | hk
  · rw [h.2 k hk, List.getElem?_reverse hk]
    split
    · rfl
    · rw [show xs.length - 1 - k = k by omega]
  · rw [List.getElem?_eq_none (by rw [h.1]; exact hk), List.getElem?_eq_none (by simpa using hk)]
theorem RevAt.step {xs ys : List Int} {i j : Nat} {a b : Int} (h : RevAt xs ys i) (hj : i + j + 1 = xs.length) (hij : i < j) (ha : ys[i]? = some a) (hb : ys[j]? = some b) : RevAt xs ((ys.set i b).set j a) (i + 1) := by
  have hi : xs[i]? = some a := by rw [← ha, h.2 i (by omega), if_neg (by omega)]
  have hj' : xs[j]? = some b := by rw [← hb, h.2 j (by omega), if_neg (by omega)]
  refine ⟨by simp [h.1], fun k hk => ?_⟩
  by_cases h1 : k = j
  · subst h1
    rw [List.getElem?_set_self (by simp [h.1]; omega), if_pos (by omega), show xs.length - 1 - k = i by omega, hi]
  · rw [List.getElem?_set_ne (by omega)]
    by_cases h2 : k = i
    · subst h2
      rw [List.getElem?_set_self (by rw [h.1]; omega), if_pos (by omega), show xs.length - 1 - k = j by omega, hj']
    · rw [List.getElem?_set_ne (by omega), h.2 k hk]
      by_cases h3 : k < i ∨ xs.length - i ≤ k
      · rw [if_pos h3, if_pos (by omega)]
      · rw [if_neg h3, if_neg (by omega)]

theorem ints_set (xs : List Int) (i : Nat) (a : Int) : (ints xs).set i (.int .i64 a) = ints (xs.set i a) := by
  simp [ints, List.map_set]

set_option maxHeartbeats 1000000 in
theorem reverse_any (g n c B : Nat) (xs : List Int) (w : World) (hn : n = xs.length) (hp : 1 ≤ n) (hb : n ≤ 1000) (ho : w.ownsRow B 3 1 (.slice (some ⟨g, 0, none⟩) n c) n (ints xs)) :
    Calls Try.prog 77 #[.slice (some ⟨g, 0, none⟩) n c] w fun e w' => e = .returned (.tuple #[]) ∧ w'.ownsRow B 3 1 (.slice (some ⟨g, 0, none⟩) n c) n (ints xs.reverse) ∧ Below B w w' := by
  have hgB : B ≤ g := (ho.lt g rfl).1
  have Ho := Lib.hid ho
  have Hn := Lib.hid hn
  obtain ⟨j0, hj0⟩ : ∃ j0, n = j0 + 1 := ⟨n - 1, by omega⟩
  have hj1 : IntKind.i64.wrap ((n : Int) - 1) = (j0 : Int) := by rw [IntWalk.i64_in _ (by omega)]; omega
  have hj2 : (n : Int) - 1 = (j0 : Int) := by omega
  have HJ := Lib.hid hj0
  clear ho hn hj0
  go_enter Try.func77, Try.ntmps77
  go_wp2_with fail
  go_loopw [2, 3] (fun v2 v3 wr => ∃ (i j : Nat) (ys : List Int), i + j + 1 = n ∧ Hid (RevAt xs ys i) ∧ v2 = .int .i64 i ∧ v3 = .int .i64 j ∧ wr.ownsRow B 3 1 (.slice (some ⟨g, 0, none⟩) n c) n (ints ys) ∧ Below B w wr) (fun _ v3 _ => (intOf v3).toNat)
  case atStart => exact ⟨0, j0, xs, by have := HJ.out; omega, Lib.hid (RevAt.start xs), rfl, rfl, Ho.out, Below.refl _ _⟩
  case round =>
    obtain ⟨i, j, ys, hij, HR, rfl, rfl, hor, hbr⟩ := hrel
    have hyl : ys.length = n := by rw [HR.out.1, ← Hn.out]
    by_cases hlt : i < j
    · obtain ⟨a, ha⟩ : ∃ a, ys[i]? = some a := ⟨_, List.getElem?_eq_getElem (show i < ys.length by omega)⟩
      obtain ⟨b, hb'⟩ : ∃ b, ys[j]? = some b := ⟨_, List.getElem?_eq_getElem (show j < ys.length by omega)⟩
      have hk1 : wr.cell? ⟨g, i, none⟩ = some (.int .i64 a) := (hor.cellAt i (by omega)).trans (by rw [ints, List.getElem?_map, ha]; rfl)
      have hk2 : wr.cell? ⟨g, j, none⟩ = some (.int .i64 b) := (hor.cellAt j (by omega)).trans (by rw [ints, List.getElem?_map, hb']; rfl)
      have hf1 := hor.frozenAt i
      have hf2 := hor.frozenAt j
      have hin : i < n := by omega
      have hjn : j < n := by omega
      have hji : j ≠ i := by omega
      have HS := Lib.hid (HR.out.step (by rw [← Hn.out]; exact hij) hlt ha hb')
      have Hor := Lib.hid hor
      have Hbr := Lib.hid hbr
      have Hij := Lib.hid hij
      clear ha hb' hor hbr hyl hij
      go_wp2_with fail
      go_region
      go_wp2_with fail
      go_roundw
      case rel =>
        refine ⟨i + 1, j - 1, (ys.set i b).set j a, by have := Hij.out; omega, HS, by go_num, by go_num, ?_, ?_⟩
        · have h7 := ((Hor.out.stored i (.int .i64 b)).1.stored j (.int .i64 a)).1
          rw [ints_set, ints_set] at h7
          exact h7.drew
        · exact ((Hbr.out.setCell (p := ⟨g, i, none⟩) hgB _).setCell (p := ⟨g, j, none⟩) hgB _).drew
      case measure => simp [intOf]; omega
    · have HD := Lib.hid (HR.out.done (by rw [← Hn.out]; omega))
      have Hor := Lib.hid hor
      have Hbr := Lib.hid hbr
      clear hor hbr
      go_wp2_with fail
      go_end0
      exact ⟨rfl, by rw [← HD.out]; exact Hor.out, Hbr.out⟩

theorem reverse_nil (w : World) :
    Calls Try.prog 77 #[.slice none 0 0] w fun e w' => e = .returned (.tuple #[]) ∧ w = w' := by
  go_enter Try.func77, Try.ntmps77
  go_wp2_with fail
  refine wp_loop_rounds 1 ?_
  rw [rounds_succ]
  go_wp2_with fail
  go_end0
  exact ⟨rfl, rfl⟩

end Go.Proofs.Ytfclhepmakhimaa
