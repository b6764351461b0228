/- Towers: the program's and the model's. -/
import Derived.Test.YtobookpaadpolacPower
import Derived.Test.YtobookpaadpolacSem
import Derived.Deep.LoopGhost
import Derived.Deep.DeepCutAuto
namespace Go.Proofs.Ytobookpaadpolac
open Go.RowKit
namespace T

def tow : Nat → T
  | 0 => c 1 z z
  | n + 1 => c 1 (tow n) z
theorem tow_len (n : Nat) : (tow n).enc.length = 3 + 2 * n := by
  induction n with
  | zero => rfl
  | succ n ih => rw [tow, pow_enc]; simp [ih]; omega
theorem tow_nf (n : Nat) : (tow n).Nf := by
  induction n with
  | zero => exact ⟨by decide, by decide, trivial, trivial, ok_z _⟩
  | succ n ih => exact ⟨by decide, by decide, ih, trivial, ok_z _⟩
theorem tow_vld {n : Nat} (h : n ≤ 20) : vldB (tow n).enc = true := vld_mk (tow_nf n) (by rw [tow_len]; omega)
theorem tow_pow {n : Nat} (h : n ≤ 19) : powRow (tow n).enc = (tow (n + 1)).enc ∧ powOk (tow n).enc = true := by
  have v := tow_vld (n := n) (by omega)
  have v2 : vldB (c 1 (tow n) z).enc = true := tow_vld (n := n + 1) (by omega)
  exact ⟨by rw [powRow, if_pos v, of_enc, fit, if_pos v2]; rfl, by rw [powOk, v, of_enc, v2]; rfl⟩
theorem tow_depth (n : Nat) : (tow n).depth = n + 1 := by
  induction n with
  | zero => rfl
  | succ n ih => simp [tow, depth, ih]

theorem tow_dep {n : Nat} (h : n ≤ 20) : depRow (tow n).enc = (n : Int) + 1 := by
  rw [depRow, if_pos (tow_vld h), of_enc, tow_depth]; rfl
theorem tow_lt {n : Nat} (h : n ≤ 19) : cmpRow (tow n).enc (tow (n + 1)).enc = -1 := by
  rw [cmpRow_val (tow_vld (by omega)) (tow_vld (by omega)), of_enc, of_enc]
  exact lt_pow _

/-- OrdTower. -/
def towRow (n : Int) : List Int := if 0 ≤ n ∧ n ≤ 9 then (tow n.toNat).enc else []
def towOk (n : Int) : Bool := decide (0 ≤ n ∧ n ≤ 9)
theorem towRow_in {k : Nat} (h : k ≤ 9) : towRow k = (tow k).enc ∧ towOk k = true := by
  have : (0 : Int) ≤ k ∧ (k : Int) ≤ 9 := ⟨by omega, by omega⟩
  exact ⟨by rw [towRow, if_pos this]; rfl, by rw [towOk, decide_eq_true this]⟩
theorem towRow_out {n : Int} (h : n < 0 ∨ 9 < n) : towRow n = [] ∧ towOk n = false := by
  have : ¬ (0 ≤ n ∧ n ≤ 9) := by omega
  exact ⟨by rw [towRow, if_neg this], by rw [towOk, decide_eq_false this]⟩
theorem towRow_len (n : Int) : (towRow n).length ≤ 1000 := by
  unfold towRow
  split
  · rw [tow_len]; omega
  · simp
end T

def TowRel (w : World) (k gk : Nat) (v4 v13 : Value) (wr : World) : Prop :=
  ∃ (j : Nat) (a : Option Addr) (c : Nat), v13 = .int .i64 j ∧ gk + j = k ∧ v4 = .slice a (T.tow j).enc.length c ∧ wr.ownsRow w.heap.size 3 1 v4 (T.tow j).enc.length (ints (T.tow j).enc) ∧ Below w.heap.size w wr

def TowPost (w : World) (n : Int) (e : Ending) (w' : World) : Prop :=
  ∃ a c, e = .returned (.tuple #[.slice a (T.towRow n).length c, .bool (T.towOk n)]) ∧
      w'.ownsRow w.heap.size 3 1 (.slice a (T.towRow n).length c) (T.towRow n).length (ints (T.towRow n)) ∧ Below w.heap.size w w'

set_option maxHeartbeats 1000000 in
theorem impl_OrdTower (n : Int) (w : World) (hn0 : -9223372036854775808 ≤ n) (hn1 : n ≤ 9223372036854775807) :
    Calls Try.prog 28 #[.int .i64 n] w (TowPost w n) := by
  by_cases hout : n < 0 ∨ 9 < n
  · obtain ⟨e1, e2⟩ := T.towRow_out hout
    have hfin : TowPost w n (.returned (.tuple #[.slice none 0 0, .bool false])) w :=
      ⟨none, 0, by rw [e1, e2]; rfl, by rw [e1]; exact ⟨rfl, .inl ⟨rfl, rfl⟩⟩, Below.refl _ _⟩
    have Hfin := Lib.hid hfin
    clear e1 e2 hfin
    by_cases h0 : n < 0
    · clear hout
      go_enter Try.func28, Try.ntmps28
      go_wp2_with fail
      go_ret2
      exact Hfin.out
    · have h9 : 9 < n := by omega
      clear hout
      go_enter Try.func28, Try.ntmps28
      go_wp2_with fail
      go_ret2
      exact Hfin.out
  · have hn2 : 0 ≤ n := by omega
    obtain ⟨k, rfl⟩ := Int.eq_ofNat_of_zero_le hn2
    have hk : k ≤ 9 := by omega
    clear hout hn0 hn1 hn2
    have k1 := Lib.hid (impl_OrdOf 1 w (by decide) (by decide))
    have e1 : T.num' 1 = (T.tow 0).enc := rfl
    rw [e1] at k1
    clear e1
    go_enter Try.func28, Try.ntmps28
    go_wp2_with fail
    refine (k1.out).mono ?_
    rintro ee w1 ⟨a1, c1, rfl, ho1, hb1⟩
    have Ho1 := Lib.hid ho1
    have Hb1 := Lib.hid hb1
    clear ho1 hb1
    go_wp2_with fail
    go_loopg [4, 13] k (fun gk v4 v13 wr => TowRel w k gk v4 v13 wr)
    case atStart => exact ⟨0, a1, c1, rfl, rfl, rfl, Ho1.out, Hb1.out⟩
    case round =>
      obtain ⟨j, a, c, rfl, hkj, rfl, ho, hb⟩ := hrel
      have Ho := Lib.hid ho
      have Hb := Lib.hid hb
      have Hkj := Lib.hid hkj
      have hjk : j ≤ k := by omega
      by_cases hlt : j < k
      · have hp := T.tow_pow (n := j) (by omega)
        have kp := Lib.hid (impl_OrdPower a (T.tow j).enc.length c (T.tow j).enc wr (Sl.of_own ho))
        rw [hp.1, hp.2] at kp
        clear ho hb hkj hp
        go_wp2_with fail
        refine (kp.out).mono ?_
        rintro ee w2 ⟨a2, c2, rfl, ho2, hb2⟩
        have hfin : TowRel w k (gk - 1) (.slice a2 (T.tow (j + 1)).enc.length c2) (.int .i64 ((j + 1 : Nat) : Int)) w2 :=
          ⟨j + 1, a2, c2, rfl, by have := Hkj.out; omega, rfl, Joins.ownsRow_le ho2 Hb.out.size, Hb.out.trans (hb2.mono Hb.out.size)⟩
        have Hfin := Lib.hid hfin
        clear hfin ho2 hb2
        go_wp2_with fail
        go_roundg (gk - 1)
        case measure => have := Hkj.out; omega
        case rel => exact Hfin.out
      · obtain rfl : k = j := by omega
        clear ho hb hkj
        go_wp2_with fail
        go_ret2
        obtain ⟨e1, e2⟩ := T.towRow_in hk
        exact ⟨a, c, by rw [e1, e2]; rfl, by rw [e1]; exact Ho.out, Hb.out⟩

set_option maxHeartbeats 1000000 in
theorem spec_OrdTower (n : Int) (w : World) (hn0 : -9223372036854775808 ≤ n) (hn1 : n ≤ 9223372036854775807) :
    Calls Try.prog 29 #[.int .i64 n] w (TowPost w n) := by
  by_cases hout : n < 0 ∨ 9 < n
  · obtain ⟨e1, e2⟩ := T.towRow_out hout
    have k1 := Lib.hid (l1In_no n 0 9 w hout)
    have HE := Lib.hid (And.intro e1 e2)
    clear e1 e2 hout
    go_enter Try.func29, Try.ntmps29
    go_wp2_with fail
    refine (k1.out).mono ?_
    rintro ee w1 ⟨rfl, rfl⟩
    go_wp2_with fail
    go_ret2
    obtain ⟨e1, e2⟩ := HE.out
    exact ⟨_, 0, by rw [e1, e2]; rfl, by rw [e1]; exact World.ownsRow_lit w #[] 0 (Nat.le_refl _) (by simp [maxLen]) rfl, (Below.refl _ _).alloc (Nat.le_refl _) _⟩
  · have hn2 : 0 ≤ n := by omega
    obtain ⟨k, rfl⟩ := Int.eq_ofNat_of_zero_le hn2
    have hk : k ≤ 9 := by omega
    obtain ⟨i0, hi, hz0, hz1, hz2⟩ := info_parts info_int
    have k1 := Lib.hid (l1In_yes (k : Int) 0 9 w (by omega) (by omega))
    clear hout hn0 hn1 hn2
    go_enter Try.func29, Try.ntmps29
    go_wp2_with fail
    refine (k1.out).mono ?_
    rintro ee w1 ⟨rfl, rfl⟩
    go_wp2_with fail
    go_loopg [4, 5] k (fun gk v4 v13 wr => TowRel w k gk v4 v13 wr)
    case atStart => exact ⟨0, _, 3, rfl, rfl, rfl, World.ownsRow_lit w _ 3 (Nat.le_refl _) (by simp [maxLen]) rfl, (Below.refl _ _).alloc (Nat.le_refl _) _⟩
    case round =>
      obtain ⟨j, a, c, rfl, hkj, rfl, ho, hb⟩ := hrel
      have hl0 := T.tow_len j
      obtain ⟨g, cg, hv⟩ := Joins.ownsRow_form ho (by omega)
      simp only [Value.slice.injEq] at hv
      obtain ⟨rfl, _, rfl⟩ := hv
      have Ho := Lib.hid ho
      have Hb := Lib.hid hb
      have Hkj := Lib.hid hkj
      have hjk : j ≤ k := by omega
      by_cases hlt : j < k
      · obtain ⟨L, hL⟩ : ∃ L, L = (T.tow j).enc.length := ⟨_, rfl⟩
        have hL1 : L ≤ 30 := by omega
        have hL2 : (T.tow (j + 1)).enc.length = 2 + L := by have := T.tow_len (j + 1); omega
        rw [← hL] at Ho ⊢
        have HX := Lib.hid (show (ints (T.tow j).enc).length = L * 1 by rw [ints_len]; omega)
        have HN := Lib.hid (Sl.news ((Sl.of_own Ho.out).alloc (.cells #[.int .i64 1, .int .i64 1] 3)))
        have HW := Lib.hid (World.ownsRow_lit (base := wr.heap.size) (e := 3) (size := 1) wr #[.int .i64 1, .int .i64 1] 2 (Nat.le_refl _) (by simp [maxLen]) rfl)
        have HL2 := Lib.hid hL2
        clear ho hb hkj hl0 hL hL2
        go_wp2_with (first
          | (at_builtin; refine wpList_append_own _ rfl (.tmp 16) (.tmp 17) 23 rfl wr.heap.size 3 i0 (.int .i64 0) 1 8 Try.underlying23 hi hz0 hz1 hz2 rfl (by decide) _ 2 (ints [1, 1]) rfl HW.out ⟨g, 0, none⟩ L c (ints (T.tow j).enc) rfl HX.out HN.out (ints_one _) (by unfold maxLen; omega) (by omega) (by simp) ?_; intro v1 w2 ho2 hg2 _))
        have hb2 := ((Below.refl wr.heap.size wr).alloc (Nat.le_refl _) _).grown hg2 (by simp) (fun r e => (HW.out.lt r e).1)
        obtain ⟨g3, c3, rfl⟩ := Joins.ownsRow_form ho2 (by omega)
        have hfin : TowRel w k (gk - 1) (.slice (some ⟨g3, 0, none⟩) (2 + L) c3) (.int .i64 ((j + 1 : Nat) : Int)) w2 :=
          ⟨j + 1, _, c3, rfl, by have := Hkj.out; omega, by rw [HL2.out], by rw [HL2.out, T.tow, T.pow_enc]; exact Joins.ownsRow_le ho2 Hb.out.size, Hb.out.trans (hb2.mono Hb.out.size)⟩
        have Hfin := Lib.hid hfin
        clear hfin ho2 hg2 hb2
        go_wp2_with fail
        go_roundg (gk - 1)
        case measure => have := Hkj.out; omega
        case rel => exact Hfin.out
      · obtain rfl : k = j := by omega
        clear ho hb hkj hl0
        go_wp2_with fail
        go_ret2
        obtain ⟨e1, e2⟩ := T.towRow_in hk
        exact ⟨_, c, by rw [e1, e2]; rfl, by rw [e1]; exact Ho.out, Hb.out⟩

end Go.Proofs.Ytobookpaadpolac
