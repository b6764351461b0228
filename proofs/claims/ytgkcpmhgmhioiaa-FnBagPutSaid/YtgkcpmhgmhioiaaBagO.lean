/- Multisets: the numbers by descending value, by the model. -/
import Derived.Test.YtgkcpmhgmhioiaaBagB
import Derived.Test.YtgkcpmhgmhioiaaMake
namespace Go.Proofs.Ytgkcpmhgmhioiaa
set_option maxRecDepth 100000
open Go.RowKit

/-- The numbers of a list by descending value. -/
def flat (xs : List Int) : Nat → List Int
  | 0 => []
  | k + 1 => List.replicate (xs.count (k : Int)) (k : Int) ++ flat xs k
def bagOf (xs : List Int) : List Int := if itemsB xs = true then flat xs 10 else []
theorem bagOf_in {xs : List Int} (h : itemsB xs = true) : bagOf xs = flat xs 10 := by rw [bagOf, if_pos h]
theorem bagOf_out {xs : List Int} (h : itemsB xs = false) : bagOf xs = [] := by rw [bagOf, if_neg (by rw [h]; simp)]
theorem flat_len (xs : List Int) : ∀ k : Nat, (flat xs k).length ≤ k * xs.length
  | 0 => by simp [flat]
  | k + 1 => by
    have h1 := flat_len xs k
    have h2 := List.count_le_length (a := (k : Int)) (l := xs)
    rw [flat, List.length_append, List.length_replicate, Nat.add_mul]
    omega
theorem bagOf_len (xs : List Int) : (bagOf xs).length ≤ 160 := by
  rcases items_tf xs with h | h
  · have h1 := flat_len xs 10
    have h2 := (itemsB_true.1 h).1
    rw [bagOf_in h]
    omega
  · rw [bagOf_out h]; decide

/-- A row in new memory. -/
def BagPost (w : World) (r : List Int) (e : Ending) (w' : World) : Prop :=
  ∃ g c, e = .returned (.slice (some ⟨g, 0, none⟩) r.length c) ∧ w'.ownsRow w.heap.size 3 1 (.slice (some ⟨g, 0, none⟩) r.length c) r.length (ints r) ∧ Below w.heap.size w w'

def BgRel (w : World) (xs : List Int) (m : Nat) (v3 : Value) (j : Nat) (wr : World) : Prop :=
  ∃ (k g c : Nat) (ls : List Int), k + j ≤ 16 * (10 - m) ∧ v3 = .slice (some ⟨g, 0, none⟩) k c ∧ wr.ownsRow w.heap.size 3 1 v3 k (ints ls) ∧ ls.length = k ∧ Hid (flat xs 10 = ls ++ (List.replicate j (m : Int) ++ flat xs m)) ∧ Below w.heap.size w wr

set_option maxHeartbeats 4000000 in
theorem spec_BagOf (ao : Option Addr) (n c : Nat) (xs : List Int) (w : World) (h : Sl w ao n c xs) :
    Calls Try.prog 25 #[.slice ao n c] w (BagPost w (bagOf xs)) := by
  have hn9 : n ≤ 9223372036854775807 := by have h2 := h.2.1; have h3 := h.2.2.1; unfold maxLen at h3; omega
  obtain ⟨i0, hi, hz0, hz1, hz2⟩ := info_parts info_int
  have HS := Lib.hid h
  have X1 := Lib.hid h.1
  obtain ⟨r, hr⟩ : ∃ r, r = bagOf xs := ⟨_, rfl⟩
  have hrin : itemsB xs = true → r = flat xs 10 := fun h9 => by rw [hr, bagOf_in h9]
  have hrout : itemsB xs = false → r = [] := fun h9 => by rw [hr, bagOf_out h9]
  rw [← hr]
  have HRi := Lib.hid hrin
  have HRo := Lib.hid hrout
  obtain ⟨W, hW⟩ : ∃ W, W = w.alloc (.cells #[] 3) := ⟨_, rfl⟩
  have hbW : Below w.heap.size w W := by rw [hW]; exact (Below.refl _ _).alloc (Nat.le_refl _) _
  have hoW : W.ownsRow w.heap.size 3 1 (.slice (some ⟨w.heap.size, 0, none⟩) 0 0) 0 (ints []) := by rw [hW]; exact World.ownsRow_lit w #[] 0 (Nat.le_refl _) (by simp [maxLen]) rfl
  have HbW := Lib.hid hbW
  have HoW := Lib.hid hoW
  have hws := hbW.size
  have HWe := Lib.hid hW.symm
  clear h hr hrin hrout hbW hoW hW
  go_enter Try.func25, Try.ntmps25
  go_wp2_with fail
  rw [HWe.out]
  go_loopw [4] (fun i wr => ∃ (k : Nat), k ≤ n ∧ i = .int .i64 k ∧ Hid (∀ j, j < k → 0 ≤ xs.getD j 0 ∧ xs.getD j 0 ≤ 9) ∧ W = wr) (fun i _ => n - (intOf i).toNat)
  case atStart => exact ⟨0, Nat.zero_le _, rfl, Lib.hid (fun j hj => by omega), rfl⟩
  case round =>
    obtain ⟨k, hk, rfl, HE, rfl⟩ := hrel
    by_cases hlt : k < n
    · obtain ⟨b, off, rfl, hat⟩ := HS.out.2.2.2 (by omega)
      have hkx : k < xs.length := by rw [X1.out]; exact hlt
      have hbl : b < w.heap.size := hat.lt (by intro h9; rw [h9] at hkx; simp at hkx)
      have hx : W.cell? ⟨b, off + k, none⟩ = some (.int .i64 (xs.getD k 0)) := (hat.below HbW.out hbl) k hkx
      obtain ⟨x, hxe⟩ : ∃ x, x = xs.getD k 0 := ⟨_, rfl⟩
      rw [← hxe] at hx
      have Hx := Lib.hid hxe
      have Hkx := Lib.hid hkx
      clear hkx hxe hat
      by_cases hx0 : x < 0 ∨ 9 < x
      · obtain rfl := HRo.out (by rw [itemsB, upTo_at Hkx.out (by rw [← Hx.out]; exact hx0), Bool.and_false])
        have ci := Lib.hid (l1In_no x 0 9 W hx0)
        clear hx0
        go_wp2_with fail
        refine (ci.out).mono ?_
        rintro ee wx ⟨rfl, rfl⟩
        go_wp2_with fail
        go_ret
        exact ⟨_, 0, rfl, World.ownsRow_lit W #[] 0 hws (by simp [maxLen]) rfl, HbW.out.alloc hws _⟩
      · have ci := Lib.hid (l1In_yes x 0 9 W (by omega) (by omega))
        have HE2 := Lib.hid (show ∀ j, j < k + 1 → 0 ≤ xs.getD j 0 ∧ xs.getD j 0 ≤ 9 from fun j hj => by
          by_cases hjk : j = k
          · subst hjk; rw [← Hx.out]; omega
          · exact HE.out j (by omega))
        clear hx0
        go_wp2_with fail
        refine (ci.out).mono ?_
        rintro ee wx ⟨rfl, rfl⟩
        go_wp2_with fail
        go_roundw
        case rel => exact ⟨k + 1, by omega, by go_num, HE2, by trivial⟩
        case measure => exact bag_measure hlt
    · obtain rfl : k = n := by omega
      have hup : upTo 9 xs = true := upTo_all (fun j hj => HE.out j (by rw [← X1.out]; exact hj))
      by_cases h16 : k ≤ 16
      · obtain rfl := HRi.out (itemsB_true.2 ⟨by rw [X1.out]; exact h16, hup⟩)
        have km := Lib.hid (fun (m : Int) wx hb => l6Many_any ao k c xs m wx (by omega) (HS.out.below (w := w) hb))
        have hcb : ∀ m : Int, xs.count m ≤ 16 := fun m => by have := List.count_le_length (a := m) (l := xs); rw [X1.out] at this; omega
        have Hcb := Lib.hid hcb
        have Hst := Lib.hid (show BgRel w xs 10 (.slice (some ⟨w.heap.size, 0, none⟩) 0 0) 0 W from ⟨0, _, 0, [], by omega, rfl, HoW.out, rfl, Lib.hid rfl, HbW.out⟩)
        clear hup hcb
        go_wp2_with fail
        go_loopw [3, 5, 6] (fun v3 v5 _ wr => ∃ m : Nat, m ≤ 10 ∧ v5 = .int .i64 ((m : Int) - 1) ∧ BgRel w xs m v3 0 wr) (fun _ v5 _ _ => ((intOf v5) + 1).toNat)
        case atStart => exact ⟨10, by omega, rfl, Hst.out⟩
        case round =>
          obtain ⟨m, hm, rfl, k2, g, c3, ls, hkj, rfl, ho, hls, HF, hb⟩ := hrel
          obtain ⟨wA, rfl⟩ : ∃ wA : World, wA = wr := ⟨_, rfl⟩
          have Ho := Lib.hid ho
          have Hls := Lib.hid hls
          have Hb := Lib.hid hb
          have hwA := hb.size
          by_cases hm0 : 0 < m
          · obtain ⟨q, rfl⟩ : ∃ q, m = q + 1 := ⟨m - 1, by omega⟩
            have em : (((q + 1 : Nat) : Int) - 1) = (q : Int) := by omega
            rw [em]
            have kp := Lib.hid (km.out q wA hb)
            have hpb := Hcb.out q
            have hF := HF.out
            have hfl : flat xs (q + 1) = List.replicate (xs.count (q : Int)) (q : Int) ++ flat xs q := rfl
            rw [hfl] at hF
            clear hfl
            obtain ⟨p, hp⟩ : ∃ p, p = xs.count (q : Int) := ⟨_, rfl⟩
            rw [← hp] at kp hpb hF
            have Hst2 := Lib.hid (show BgRel w xs q (.slice (some ⟨g, 0, none⟩) k2 c3) p wA from ⟨k2, g, c3, ls, by omega, rfl, ho, hls, Lib.hid (by simpa using hF), hb⟩)
            have hq0 : (0 : Int) ≤ (q : Int) := by omega
            clear em hp hF ho hls hb
            go_wp2_with fail
            refine (kp.out).mono ?_
            rintro ee wx ⟨rfl, rfl⟩
            go_wp2_with fail
            go_loopw [3, 6] (fun v3 v6 wr => ∃ j : Nat, v6 = .int .i64 j ∧ BgRel w xs q v3 j wr) (fun _ v6 _ => (intOf v6).toNat)
            case atStart => exact ⟨p, rfl, Hst2.out⟩
            case round =>
              obtain ⟨j, rfl, k3, g3, c4, ls3, hkj3, rfl, ho3, hls3, HF3, hb3⟩ := hrel
              obtain ⟨wB, rfl⟩ : ∃ wB : World, wB = wr := ⟨_, rfl⟩
              have Ho3 := Lib.hid ho3
              have Hls3 := Lib.hid hls3
              have Hb3 := Lib.hid hb3
              have hwB := hb3.size
              have hk3 : k3 ≤ 160 := by omega
              clear ho3 hls3 hb3
              by_cases hj0 : 0 < j
              · obtain ⟨j1, rfl⟩ : ∃ j1, j = j1 + 1 := ⟨j - 1, by omega⟩
                go_wp2_with (first
                  | (at_builtin; refine wpList_append_own _ rfl (.tmp 37) (.tmp 39) 23 rfl w.heap.size 3 i0 (.int .i64 0) 1 8 Try.underlying23 hi hz0 hz1 hz2 rfl (by decide) _ k3 (ints ls3) rfl (Ho3.out.alloc _) ⟨wB.heap.size, 0, none⟩ 1 1 [.int .i64 (q : Int)] rfl rfl (cell_one_new _ _ _) (ints_oneCell _ [(q : Int)]) (by unfold maxLen; omega) (by omega) (by simp; omega) ?_; intro v4 wC ho4 hg4 _; obtain ⟨g6, c6, rfl⟩ := Joins.ownsRow_form ho4 (by omega)))
                have hfin : BgRel w xs q (.slice (some ⟨g6, 0, none⟩) (k3 + 1) c6) j1 wC :=
                  ⟨k3 + 1, g6, c6, ls3 ++ [(q : Int)], by omega, rfl, by simpa [ints] using ho4, by rw [List.length_append, Hls3.out]; rfl, Lib.hid (by rw [HF3.out, List.replicate_succ]; simp), (Hb3.out.alloc hwB _).grown hg4 (by simp; omega) (fun r e => (Ho3.out.lt r e).1)⟩
                have Hfin := Lib.hid hfin
                clear hfin ho4 hg4
                go_wp2_with fail
                go_roundw
                case rel => exact ⟨j1, by go_num, Hfin.out⟩
                case measure => simp [intOf] <;> omega
              · obtain rfl : j = 0 := by omega
                have hfin : BgRel w xs q (.slice (some ⟨g3, 0, none⟩) k3 c4) 0 wB := ⟨k3, g3, c4, ls3, by omega, rfl, Ho3.out, Hls3.out, HF3, Hb3.out⟩
                have Hfin := Lib.hid hfin
                clear hfin
                go_wp2_with fail
                go_roundw
                case rel => exact ⟨q, by omega, by first | rfl | go_num, Hfin.out⟩
                case measure => simp [intOf] <;> omega
          · obtain rfl : m = 0 := by omega
            have hfin : BagPost w (flat xs 10) (.returned (.slice (some ⟨g, 0, none⟩) k2 c3)) wA := by
              have hle : flat xs 10 = ls := by rw [HF.out]; simp [flat]
              rw [hle, ← hls]
              rw [← hls] at ho
              exact ⟨_, c3, rfl, ho, hb⟩
            have Hfin := Lib.hid hfin
            clear hfin ho hls hb
            go_wp2_with fail
            go_ret
            exact Hfin.out
      · obtain rfl := HRo.out (itemsB_len (by rw [X1.out]; exact h16))
        have h16' : decide ((k : Int) ≤ 16) = false := by simp; omega
        clear hup
        go_wp2_with fail
        go_loopw [3, 5, 6] (fun v3 v5 _ wr => v3 = .slice (some ⟨w.heap.size, 0, none⟩) 0 0 ∧ v5 = .int .i64 9 ∧ W = wr) (fun _ _ _ _ => 0)
        case atStart => exact ⟨rfl, rfl, rfl⟩
        case round =>
          obtain ⟨rfl, rfl, rfl⟩ := hrel
          go_wp2_with fail
          go_ret
          exact ⟨_, 0, rfl, HoW.out, HbW.out⟩

end Go.Proofs.Ytgkcpmhgmhioiaa
