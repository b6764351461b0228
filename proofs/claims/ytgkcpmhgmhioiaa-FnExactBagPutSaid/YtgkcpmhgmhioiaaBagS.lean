/- Multisets: one number replaced by lesser ones, by the model. -/
import Derived.Test.YtgkcpmhgmhioiaaBagRm
import Derived.Test.YtgkcpmhgmhioiaaDrawBagK
import Derived.Test.YtgkcpmhgmhioiaaPost
namespace Go.Proofs.Ytgkcpmhgmhioiaa
set_option maxRecDepth 100000
open Go.RowKit

def PtRel (w wA : World) (n2 : Nat) (xs ys : List Int) (V : Int) (v8 v9 v11 : Value) (wr : World) : Prop :=
  ∃ (i k g c : Nat) (b : Bool) (ls : List Int), v11 = .int .i64 i ∧ Hid (ls = ys ++ (xs.take i).erase V ∧ (b = true ↔ V ∈ xs.take i)) ∧ v9 = .bool b ∧ v8 = .slice (some ⟨g, 0, none⟩) k c ∧ wr.ownsRow w.heap.size 3 1 v8 k (ints ls) ∧ ls.length = k ∧ k ≤ n2 + i ∧ Below w.heap.size w wr ∧ wA.heap.size ≤ wr.heap.size

set_option maxHeartbeats 4000000 in
theorem spec_BagPut (a1 : Option Addr) (n1 c1 g2 n2 c2 B : Nat) (xs ys : List Int) (V : Int) (w : World) (hx : Sl w a1 n1 c1 xs) (hy : w.ownsRow B 3 1 (.slice (some ⟨g2, 0, none⟩) n2 c2) n2 (ints ys)) (hn1 : n1 ≤ 1048576) (hn2 : n2 ≤ 1048576) (hV0 : -9223372036854775808 ≤ V) (hV1 : V ≤ 9223372036854775807) :
    Calls Try.prog 29 #[.slice a1 n1 c1, .int .i64 V, .slice (some ⟨g2, 0, none⟩) n2 c2] w (OrdOkPost w (putRow xs V ys) (putOk xs V ys)) := by
  obtain ⟨i0, hi, hz0, hz1, hz2⟩ := info_parts info_int
  have k1 := Lib.hid (spec_BagValid a1 n1 c1 xs w hx)
  have HX := Lib.hid hx
  have HY := Lib.hid hy
  have hl2 : ys.length = n2 := by have := hy.1; rw [ints_len] at this; omega
  have Hl2 := Lib.hid hl2
  obtain ⟨r, hr⟩ : ∃ r, r = putRow xs V ys := ⟨_, rfl⟩
  obtain ⟨o, ho⟩ : ∃ o, o = putOk xs V ys := ⟨_, rfl⟩
  have hno : putOk xs V ys = false → r = [] ∧ o = false := fun h => ⟨by rw [hr, putRow_no h], by rw [ho, h]⟩
  have hyes : putOk xs V ys = true → r = bagOf (ys ++ xs.erase V) ∧ o = true := fun h => ⟨by rw [hr, putRow_yes' h], by rw [ho, h]⟩
  rw [← hr, ← ho]
  have HNo := Lib.hid hno
  have HYes := Lib.hid hyes
  have HLn := Lib.hid hx.1
  clear hx hy hl2 hr ho hno hyes
  rcases bag_tf xs with h1 | h1
  · rw [h1] at k1
    have h16a : n1 ≤ 16 := by have h9 := (itemsB_true.1 (bagB_true.1 h1).1).1; rw [HLn.out] at h9; exact h9
    have HB1 := Lib.hid h1
    clear h1
    go_enter Try.func29, Try.ntmps29
    go_wp2_with fail
    refine (k1.out).mono ?_
    rintro ee w1 ⟨rfl, hb1⟩
    have Hb1 := Lib.hid hb1
    have hw1 := hb1.size
    have k2 := Lib.hid (l6Many_any a1 n1 c1 xs V w1 (by omega) (HX.out.below hb1))
    have hcb : xs.count V ≤ 200 := by have := List.count_le_length (a := V) (l := xs); rw [HX.out.1] at this; omega
    obtain ⟨p, hp⟩ : ∃ p, p = xs.count V := ⟨_, rfl⟩
    rw [← hp] at k2 hcb
    have HP := Lib.hid hp
    have HY1 := Lib.hid (ownsRow_below' HY.out hb1)
    clear hb1 hp
    go_wp2_with fail
    refine (k2.out).mono ?_
    rintro ee wx ⟨rfl, rfl⟩
    by_cases hp0 : p = 0
    · have hpz : ((p : Int) == 0) = true := by simp [hp0]
      obtain ⟨rfl, rfl⟩ := HNo.out (putOk_2 (List.count_eq_zero.1 (by rw [← HP.out]; exact hp0)))
      clear hp0
      go_wp2_with fail
      go_ret2
      exact lit_post Hb1.out
    · have hpz : ((p : Int) == 0) = false := by simp [hp0]
      have hmem : V ∈ xs := List.count_pos_iff.1 (by rw [← HP.out]; omega)
      have hVb := upTo_true.1 (itemsB_true.1 (bagB_true.1 HB1.out).1).2 V hmem
      have hV : IntKind.i64.wrap (V - 1) = V - 1 := IntWalk.i64_in _ (by omega)
      have HM := Lib.hid hmem
      clear hmem
      have HN := Lib.hid (bg_news (o := .cells #[] 3) HY1.out)
      clear hp0
      go_wp2_with (first
        | (at_builtin; go_loud (refine wpList_append_own _ rfl (.tmp 22) (.tmp 23) 23 rfl w1.heap.size 3 i0 (.int .i64 0) 1 8 Try.underlying23 hi hz0 hz1 hz2 rfl (by decide) _ 0 [] (by rfl) (World.ownsRow_lit w1 #[] 0 (Nat.le_refl _) (by simp [maxLen]) rfl) ⟨g2, 0, none⟩ n2 c2 (ints ys) (by rfl) (by rw [ints_len]; have := Hl2.out; omega) HN.out (ints_one ys) (by unfold maxLen; omega) (by omega) (by simp) ?_; intro v1 wA ho1 hg1 hiff; have hne1 : v1 ≠ .slice none 0 0 := fun h => absurd (hiff.1 h).1 (by simp); have hoA := own0 ho1; have hbA := (Hb1.out.alloc hw1 (.cells #[] 3)).grown hg1 (by simp <;> omega) (fun r e => by cases e <;> exact hw1); have hsA := hg1.size; have HbA := Lib.hid hbA; have HoA := Lib.hid hoA)))
      obtain ⟨g6, c6, rfl⟩ : ∃ g c, v1 = .slice (some ⟨g, 0, none⟩) n2 c := by
        rcases HoA.out.2 with ⟨h9, h8⟩ | ⟨g, cap, cur, h0, _⟩
        · exact absurd h9 hne1
        · exact ⟨g, cap, h0⟩
      have HYA := Lib.hid (ownsRow_below' HY.out HbA.out)
      have XA := Lib.hid (HX.out.below HbA.out)
      have hwA := HbA.out.size
      have HoA0 := Lib.hid (Joins.ownsRow_le HoA.out hw1)
      clear ho1 hg1 hoA hbA hsA hiff hne1
      go_wp2_with fail
      go_loopw [10] (fun v10 wr => ∃ k : Nat, k ≤ n2 ∧ v10 = .int .i64 k ∧ Hid (∀ j, j < k → 0 ≤ ys.getD j 0 ∧ ys.getD j 0 ≤ V - 1) ∧ wA = wr) (fun v10 _ => n2 - (intOf v10).toNat)
      case atStart => exact ⟨0, Nat.zero_le _, rfl, Lib.hid (fun j hj => by omega), rfl⟩
      case round =>
        obtain ⟨k, hk, rfl, HE, rfl⟩ := hrel
        by_cases hlt : k < n2
        · obtain ⟨x, hx⟩ : ∃ x, x = ys.getD k 0 := ⟨_, rfl⟩
          have y0 : wA.cell? ⟨g2, k, none⟩ = some (.int .i64 x) := by
            rw [HYA.out.cellAt k (by omega), ints_get ys k (by rw [Hl2.out]; exact hlt), hx]
          have Hx := Lib.hid hx
          clear hx
          by_cases hin : 0 ≤ x ∧ x ≤ V - 1
          · have ci := Lib.hid (l1In_yes x 0 (V - 1) wA hin.1 hin.2)
            have HE2 := Lib.hid (show ∀ j, j < k + 1 → 0 ≤ ys.getD j 0 ∧ ys.getD j 0 ≤ V - 1 from fun j hj => by
              by_cases hjk : j = k
              · subst hjk; rw [← Hx.out]; exact hin
              · exact HE.out j (by omega))
            clear hin
            go_wp2_with fail
            refine (ci.out).mono ?_
            rintro ee wx ⟨rfl, rfl⟩
            go_wp2_with fail
            go_roundw
            case rel => exact ⟨k + 1, by omega, by go_num, HE2, by trivial⟩
            case measure => exact bag_measure hlt
          · have ci := Lib.hid (l1In_no x 0 (V - 1) wA (by omega))
            obtain ⟨rfl, rfl⟩ := HNo.out (putOk_3 (upTo_at (k := k) (by rw [Hl2.out]; exact hlt) (by rw [← Hx.out]; omega)))
            clear hin
            go_wp2_with fail
            refine (ci.out).mono ?_
            rintro ee wx ⟨rfl, rfl⟩
            go_wp2_with fail
            go_ret2
            exact lit_post HbA.out
        · have hkn : k = n2 := by omega
          have HU := Lib.hid (show upTo (V - 1) ys = true from upTo_all (fun j hj => HE.out j (by rw [hkn]; rw [Hl2.out] at hj; exact hj)))
          have Hst := Lib.hid (show PtRel w wA n2 xs ys V (.slice (some ⟨g6, 0, none⟩) n2 c6) (.bool false) (.int .i64 (0 : Nat)) wA from ⟨0, n2, g6, c6, false, ys, rfl, Lib.hid (by simp), rfl, rfl, HoA0.out, Hl2.out, by omega, HbA.out, Nat.le_refl _⟩)
          clear hkn
          go_wp2_with fail
          go_loopw [8, 9, 11] (fun v8 v9 v11 wr => PtRel w wA n2 xs ys V v8 v9 v11 wr) (fun _ _ v11 _ => n1 - (intOf v11).toNat)
          case atStart => exact Hst.out
          case round =>
            obtain ⟨i, k3, g3, c3, b, ls, rfl, HLS, rfl, rfl, ho3, hl3, hk3, hb3, hw3⟩ := hrel
            obtain ⟨wB, rfl⟩ : ∃ wB : World, wB = wr := ⟨_, rfl⟩
            have Ho3 := Lib.hid ho3
            have Hl3 := Lib.hid hl3
            have Hb3 := Lib.hid hb3
            have XB := Lib.hid (HX.out.below hb3)
            have hwB := hb3.size
            clear ho3 hl3 hb3
            by_cases hlt3 : i < n1
            · obtain ⟨bb, off, rfl, hat⟩ := XB.out.2.2.2 (by omega)
              have hix : i < xs.length := by rw [HX.out.1]; exact hlt3
              have y0 := hat i hix
              obtain ⟨x, hx⟩ : ∃ x, x = xs.getD i 0 := ⟨_, rfl⟩
              rw [← hx] at y0
              have Hx := Lib.hid hx
              have Hix := Lib.hid hix
              have hap : (b = true ∨ x ≠ V) → ∀ (g6 c6 : Nat) (wC : World), wC.ownsRow w.heap.size 3 1 (.slice (some ⟨g6, 0, none⟩) (k3 + 1) c6) (k3 + 1) (ints ls ++ [.int .i64 x]) → (wB.alloc (.cells #[.int .i64 x] 3)).grownBy wC (Value.slice (some ⟨g3, 0, none⟩) k3 c3).ownBlock →
                  PtRel w wA n2 xs ys V (.slice (some ⟨g6, 0, none⟩) (k3 + 1) c6) (.bool b) (.int .i64 ((i : Int) + 1)) wC := by
                intro hbx g6 c6 wC ho hg
                have hkp := put_keep Hix.out (V := V) (by rw [← Hx.out]; exact hbx.imp HLS.out.2.1 id)
                refine ⟨i + 1, k3 + 1, g6, c6, b, ls ++ [x], by go_num, Lib.hid ⟨by rw [HLS.out.1, hkp.1, ← Hx.out, List.append_assoc], HLS.out.2.trans hkp.2.symm⟩, rfl, rfl, by simpa [ints] using ho, by rw [List.length_append, Hl3.out]; rfl, by omega, (Hb3.out.alloc hwB _).grown hg (by simp; omega) (fun r e => (Ho3.out.lt r e).1), ?_⟩
                have h9 := hg.size
                simp at h9
                omega
              have Hap := Lib.hid hap
              clear hat hix hx hap
              by_cases hg : x = V ∧ b = false
              · obtain ⟨rfl, rfl⟩ := hg
                have hxe : (x == x) = true := by simp
                have hsk := put_skip Hix.out (by rw [← Hx.out]; exact fun h => by have := HLS.out.2.2 h; cases this)
                rw [← Hx.out] at hsk
                have HS := Lib.hid (show ls = ys ++ (xs.take (i + 1)).erase x ∧ (true = true ↔ x ∈ xs.take (i + 1)) from ⟨by rw [hsk.1]; exact HLS.out.1, ⟨fun _ => hsk.2, fun _ => rfl⟩⟩)
                clear hsk
                go_wp2_with fail
                go_roundw
                case rel => exact ⟨i + 1, k3, g3, c3, true, ls, by go_num, HS, rfl, rfl, Ho3.out, Hl3.out, by omega, Hb3.out, hw3⟩
                case measure => exact bag_measure hlt3
              · have Hbx := Lib.hid (show b = true ∨ x ≠ V by
                  cases b with
                  | true => exact .inl rfl
                  | false => exact .inr (fun h => hg ⟨h, rfl⟩))
                have hgo : ((x == V) = false) ∨ ((x == V) = true ∧ b = true) := by
                  by_cases hxv : x = V
                  · right
                    refine ⟨by simp [hxv], ?_⟩
                    cases b with
                    | true => rfl
                    | false => exact absurd ⟨hxv, rfl⟩ hg
                  · left; simp [hxv]
                clear hg
                rcases hgo with hxe | ⟨hxe, rfl⟩
                all_goals
                  go_wp2_with (first
                    | (at_builtin; refine wpList_append_own _ rfl (.tmp 56) (.tmp 61) 23 rfl w.heap.size 3 i0 (.int .i64 0) 1 8 Try.underlying23 hi hz0 hz1 hz2 rfl (by decide) _ k3 (ints ls) (by rfl) (Ho3.out.alloc _) ⟨wB.heap.size, 0, none⟩ 1 1 [.int .i64 x] (by rfl) (by rfl) (cell_one_new _ _ _) (ints_oneCell _ [x]) (by unfold maxLen; omega) (by omega) (by simp; omega) ?_; intro v4 wC ho4 hg4 _; obtain ⟨g6, c6, rfl⟩ := Joins.ownsRow_form ho4 (by omega)))
                  have Hfin := Lib.hid (Hap.out Hbx.out g6 c6 wC ho4 hg4)
                  clear ho4 hg4
                  go_wp2_with fail
                  go_roundw
                  case rel => exact Hfin.out
                  case measure => exact bag_measure hlt3
            · have hLE : ls = ys ++ xs.erase V := by rw [HLS.out.1, List.take_of_length_le (by rw [HLn.out]; omega)]
              have hkl : k3 = ys.length + (xs.length - 1) := by rw [← Hl3.out, hLE, List.length_append, List.length_erase_of_mem HM.out]
              have HLE := Lib.hid hLE
              have Hkl := Lib.hid hkl
              clear hLE hkl
              by_cases h16 : 16 < k3
              · obtain ⟨rfl, rfl⟩ := HNo.out (putOk_4 (by have := Hkl.out; omega))
                go_wp2_with fail
                go_ret2
                exact lit_post Hb3.out
              · have kb := Lib.hid (spec_BagOf _ k3 c3 ls wB (Sl.of_own Ho3.out))
                obtain ⟨hrr, rfl⟩ := HYes.out (putOk_yes HB1.out HM.out HU.out (by have := Hkl.out; omega))
                rw [HLE.out, ← hrr] at kb
                unfold BagPost at kb
                clear hrr
                go_wp2_with fail
                refine (kb.out).mono ?_
                rintro ee w9 ⟨g9, c9, rfl, ho9, hb9⟩
                have hfin : OrdOkPost w r true (.returned (.tuple #[.slice (some ⟨g9, 0, none⟩) r.length c9, .bool true])) w9 :=
                  ⟨_, c9, rfl, Joins.ownsRow_le ho9 hwB, Hb3.out.trans (hb9.mono hwB)⟩
                have Hfin := Lib.hid hfin
                clear hfin ho9 hb9
                go_wp2_with fail
                go_ret2
                exact Hfin.out
  · rw [h1] at k1
    obtain ⟨rfl, rfl⟩ := HNo.out (putOk_1 h1)
    clear h1
    go_enter Try.func29, Try.ntmps29
    go_wp2_with fail
    refine (k1.out).mono ?_
    rintro ee w1 ⟨rfl, hb1⟩
    have Hb1 := Lib.hid hb1
    have hw1 := hb1.size
    clear hb1
    go_wp2_with fail
    go_ret2
    exact lit_post Hb1.out

end Go.Proofs.Ytgkcpmhgmhioiaa
