/- What the laws of chapter 7 draw: relations. -/
import Derived.Test.YtagdeifalkenhaaDoorRelB
import Derived.Test.YtagdeifalkenhaaDoorRdKit
import Derived.Test.YtagdeifalkenhaaDoorDraw0D
import Derived.Test.YtagdeifalkenhaaDoorMakeK
import Derived.StillTailTactics
import Derived.Deep.RegionWith
import Derived.Deep.CutBlock
import Derived.Deep.DeepCutAuto
import Derived.Deep.LoopGhost
namespace Go.Proofs.YtagdeifalkenhaaDoor
set_option maxRecDepth 100000
open Go.RowKit

/-- A relation that was drawn. -/
def RelDrw (w : World) (g P : Nat) (e : Ending) (w' : World) : Prop :=
  ∃ (xs : List Int) (g' n c : Nat), n = xs.length ∧ e = .returned (.slice (some ⟨g', 0, none⟩) n c) ∧ w'.ownsRow w.heap.size 3 1 (.slice (some ⟨g', 0, none⟩) n c) n (ints xs) ∧
    n ≤ 13 ∧ RdOk w' g (P + 60) ∧ w.grownBy w' (some g)

def RlDraw (w : World) (g P D gO cO : Nat) (v10 : Value) (wr : World) : Prop :=
  ∃ (j k : Nat) (xs : List Int), v10 = .int .i64 j ∧ j + k ≤ 20 ∧ xs.length = D ∧ (∀ x ∈ xs, 0 ≤ x ∧ x ≤ 1024 * (k : Int)) ∧ wr.ownsRow w.heap.size 3 1 (.slice (some ⟨gO, 0, none⟩) D cO) D (ints xs) ∧ RdOk wr g (P + 3 + 2 * k) ∧ w.grownBy wr (some g)

theorem gb_refl (w : World) : w.grownBy w none := ⟨rfl, rfl, rfl, Nat.le_refl _, fun _ _ _ => rfl⟩
theorem gb_drew {w wr : World} (h : w.grownBy wr none) : w.grownBy wr.drew none := ⟨h.os, h.tape, h.output, h.size, h.block⟩
theorem gb_alloc {w wr : World} (h : w.grownBy wr none) (o : Obj) : w.grownBy (wr.alloc o) none := by
  have k := World.grownBy_alloc wr o none
  refine ⟨k.os.trans h.os, k.tape.trans h.tape, k.output.trans h.output, Nat.le_trans h.size k.size, fun i hi hne => ?_⟩
  rw [k.block i (Nat.lt_of_lt_of_le hi h.size) hne]
  exact h.block i hi hne
def rlV (b : Nat) (z : Nat) : Int := if b = 0 then -1 else (z : Int)
theorem rl_cell {b : Nat} (hb : b < 2) (z : Nat) (w : World) : (w.alloc (.cells #[.int .i64 (-1), .int .i64 (z : Int)] 3)).cell? ⟨w.heap.size, b, none⟩ = some (.int .i64 (rlV b z)) := by
  rcases (show b = 0 ∨ b = 1 by omega) with rfl | rfl
  · simp [rlV]
  · simp [rlV]
theorem pick2_any (g P : Nat) (w : World) (hP : P ≤ 1000000000) (h : RdOk w g P) :
    Calls Tryd.prog 28 #[.pointer (some ⟨g, 0, none⟩), .int .i64 2] w fun e w' => ∃ b : Nat, b < 2 ∧ e = .returned (.int .i64 (b : Int)) ∧ RdOk w' g (P + 1) ∧ w.grownBy w' (some g) := by
  refine (pick_any g P 2 w hP (by decide) (by decide) h).mono ?_
  rintro e w' ⟨r, h1, h2, h3, h4⟩
  obtain ⟨b, rfl⟩ := Int.eq_ofNat_of_zero_le h2.1
  have h5 := h2.2.1 (by decide)
  exact ⟨b, by omega, h1, h3, h4⟩
theorem rl_sum {s z k : Nat} (h1 : (s : Int) ≤ 1024 * (k : Int)) (h2 : z ≤ 512) : 0 ≤ (s : Int) + (z : Int) ∧ (s : Int) + (z : Int) ≤ 1024 * ((k + 1 : Nat) : Int) := by
  constructor <;> omega
theorem rl_ints (o : List Int) (q : Nat) (v : Int) : (ints o).set q (.int .i64 v) = ints (o.set q v) := by simp [ints, List.map_set]
theorem rl_set {xs : List Int} {k q : Nat} {v : Int} (h : ∀ x ∈ xs, 0 ≤ x ∧ x ≤ 1024 * (k : Int)) (h0 : 0 ≤ v) (h1 : v ≤ 1024 * ((k + 1 : Nat) : Int)) : ∀ x ∈ xs.set q v, 0 ≤ x ∧ x ≤ 1024 * ((k + 1 : Nat) : Int) := by
  intro x hx
  rcases List.mem_or_eq_of_mem_set hx with h9 | h9
  · have := h x h9; omega
  · omega
theorem rl_up {xs : List Int} {k : Nat} (h : ∀ x ∈ xs, 0 ≤ x ∧ x ≤ 1024 * (k : Int)) : ∀ x ∈ xs, 0 ≤ x ∧ x ≤ 1024 * ((k + 1 : Nat) : Int) := fun x hx => by have := h x hx; omega

set_option maxHeartbeats 4000000 in
theorem l20Rel_any (g P : Nat) (m n : Int) (w : World) (hP : P ≤ 90000000) (hm0 : 1 ≤ m) (hm1 : m ≤ 9) (hn0 : 0 ≤ n) (hn1 : n ≤ 1000000) (hrd : RdOk w g P) :
    Calls Tryd.prog 27 #[.pointer (some ⟨g, 0, none⟩), .int .i64 m, .int .i64 n] w (RelDrw w g P) := by
  obtain ⟨i0, hi, hz0, hz1, hz2⟩ := info_parts info_int
  have hgl : g < w.heap.size := by obtain ⟨_, _, _, _, h1, _⟩ := hrd; exact (Array.getElem?_eq_some_iff.1 h1).1
  have k1 := Lib.hid (pick_any g P m w (by omega) (by omega) (by omega) hrd)
  clear hrd
  go_enter Tryd.func27, Tryd.ntmps27
  go_wp2_with fail
  refine (k1.out).mono ?_
  rintro ee w1 ⟨r, rfl, hr, hr1, hg1⟩
  obtain ⟨D, hD⟩ : ∃ D : Nat, 1 + r = (D : Int) := ⟨(1 + r).toNat, by have := hr.1; omega⟩
  have hD0 : 1 ≤ D := by have := hr.1; omega
  have hD1 : D ≤ 9 := by have := hr.2.1 (by omega); omega
  have r0 := hr.1
  have r1 := hr.2.1 (by omega)
  have HD := Lib.hid hD
  have Hr1 := Lib.hid hr1
  have Hg1 := Lib.hid hg1
  have hw1 : w.heap.size ≤ w1.heap.size := hg1.size
  clear hr hr1 hg1 hD
  go_wp2_with (first
    | (at_make; go_loud (rw [HD.out]; refine wpList_make_full _ rfl (.tmp 17) (.tmp 17) 23 rfl w1.heap.size 3 i0 _ 1 Tryd.underlying23 hi hz0 hz1 .i64 .i64 _ _ D rfl rfl rfl rfl (by rw [hz2]; omega) (by unfold maxLen; omega) (Nat.le_refl _) ?_; intro w2 hown hg2)))
  have ho2 : w2.ownsRow w.heap.size 3 1 (.slice (some ⟨w1.heap.size, 0, none⟩) D D) D (ints (List.replicate D 0)) := by
    rw [Nat.mul_one, show (Value.int .i64 0).cells = #[Value.int .i64 0] from rfl, toList_madeCells_one] at hown
    exact Joins.ownsRow_le (by simpa [ints] using hown) hw1
  obtain ⟨gO, hgO⟩ : ∃ gO, gO = w1.heap.size := ⟨_, rfl⟩
  rw [← hgO] at ho2
  have k2 := Lib.hid (pick_any g (P + 1) 3 w2 (by omega) (by decide) (by decide) (Hr1.out.kept hg2 (fun k hk => by cases hk)))
  have Ho2 := Lib.hid ho2
  have Hg2 := Lib.hid (grownBy_step Hg1.out hg2 (fun k hk => by cases hk))
  have HgO := Lib.hid hgO.symm
  clear hown hg2 ho2 hgO
  rw [HgO.out]
  go_wp2_with fail
  refine (k2.out).mono ?_
  rintro ee w3 ⟨p, rfl, _, hr3, hg3⟩
  have Hg3 := Lib.hid (grownBy_trans Hg2.out hg3)
  have Ho3 := Lib.hid (own_rd Ho2.out hg3 hgl)
  have k3 := Lib.hid (pick_any g (P + 1 + 1) (2 * (D : Int) + 1) w3 (by omega) (by omega) (by omega) hr3)
  clear hr3 hg3
  obtain ⟨dn, hdn⟩ : ∃ dn, dn = decide ((0 : Int) < p) := ⟨_, rfl⟩
  have Hdn := Lib.hid hdn.symm
  clear hdn
  go_wp2_with fail
  rw [Hdn.out]
  refine (k3.out).mono ?_
  rintro ee w4 ⟨j0, rfl, hj, hr4, hg4⟩
  obtain ⟨j0, rfl⟩ := Int.eq_ofNat_of_zero_le hj.1
  have hj0 : j0 ≤ 20 := by have := hj.2.1 (by omega); omega
  have Hst := Lib.hid (show RlDraw w g P D gO D (.int .i64 (j0 : Int)) w4 from ⟨j0, 0, List.replicate D 0, rfl, by omega, by simp, fun x hx => by have := List.eq_of_mem_replicate hx; omega, own_rd Ho3.out hg4 hgl, hr4.mono (by omega), grownBy_trans Hg3.out hg4⟩)
  clear hj hr4 hg4
  go_wp2_with fail
  go_loopw [10] (fun v10 wr => RlDraw w g P D gO D v10 wr) (fun v10 _ => (intOf v10).toNat)
  case atStart => exact Hst.out
  case round =>
    obtain ⟨j, k, xs, rfl, hjk, hxl, hxb, ho, hr, hg⟩ := hrel
    obtain ⟨wA, rfl⟩ : ∃ wA : World, wA = wr := ⟨_, rfl⟩
    have Hxl := Lib.hid hxl
    have Hxb := Lib.hid hxb
    have Ho := Lib.hid ho
    have Hg := Lib.hid hg
    by_cases hj : 0 < j
    · obtain ⟨j1, rfl⟩ : ∃ j1, j = j1 + 1 := ⟨j - 1, by omega⟩
      have k4 := Lib.hid (pick_any g (P + 3 + 2 * k) D wA (by omega) (by omega) (by omega) hr)
      clear hxl hxb ho hr hg
      go_wp2_with fail
      refine (k4.out).mono ?_
      rintro ee w5 ⟨a, rfl, ha, hr5, hg5⟩
      have Ho5 := Lib.hid (own_rd Ho.out hg5 hgl)
      have Hg5 := Lib.hid (grownBy_trans Hg.out hg5)
      have k5 := Lib.hid (pick_any g (P + 3 + 2 * k + 1) D w5 (by omega) (by omega) (by omega) hr5)
      obtain ⟨q, rfl⟩ := Int.eq_ofNat_of_zero_le ha.1
      have hqD : q < D := by have := ha.2.1 (by omega); omega
      clear ha hr5 hg5
      go_wp2_with fail
      refine (k5.out).mono ?_
      rintro ee w6 ⟨b, rfl, hb, hr6, hg6⟩
      obtain ⟨u, rfl⟩ := Int.eq_ofNat_of_zero_le hb.1
      have huD : u < D := by have := hb.2.1 (by omega); omega
      have Ho6 := Lib.hid (own_rd Ho5.out hg6 hgl)
      have Hg6 := Lib.hid (grownBy_trans Hg5.out hg6)
      have Hr6 := Lib.hid hr6
      have hkeep : RlDraw w g P D gO D (.int .i64 (j1 : Int)) w6 := ⟨j1, k + 1, xs, rfl, by omega, Hxl.out, rl_up Hxb.out, Ho6.out, Hr6.out.mono (by omega), Hg6.out⟩
      have Hkeep := Lib.hid hkeep
      obtain ⟨x, t, hdx, hdx1⟩ := drop_cons (xs := xs) (a := q) (by rw [Hxl.out]; exact hqD)
      have hxx := Hxb.out x (List.mem_of_mem_drop (i := q) (by rw [hdx]; exact List.mem_cons_self))
      obtain ⟨s, rfl⟩ := Int.eq_ofNat_of_zero_le hxx.1
      have hs : s ≤ 20480 := by omega
      have y0 : w6.cell? ⟨gO, q, none⟩ = some (.int .i64 s) := by
        rw [Ho6.out.cellAt q (by omega), ints_get xs q (by rw [Hxl.out]; exact hqD)]
        have h9 := List.drop_eq_getElem_cons (l := xs) (i := q) (by rw [Hxl.out]; exact hqD)
        rw [hdx] at h9
        rw [List.getD, List.getElem?_eq_getElem (by rw [Hxl.out]; exact hqD), ← (List.cons.inj h9).1]
        rfl
      have f0 := Ho6.out.frozenAt q
      have k6 := Lib.hid (l7Bit_any s u (by omega) w6)
      have h2p : 2 ^ u ≤ 512 := (Nat.pow_le_pow_right (by decide) (show u ≤ 9 by omega) : 2 ^ u ≤ 2 ^ 9)
      obtain ⟨z, hz⟩ : ∃ z : Nat, z = 2 ^ u := ⟨_, rfl⟩
      rw [← hz] at h2p
      have hsum := rl_sum hxx.2 h2p
      have hso := Ho6.out.drew.stored q (.int .i64 ((s : Int) + (z : Int)))
      have hst6 := hso.1
      rw [rl_ints] at hst6
      have hset : RlDraw w g P D gO D (.int .i64 (j1 : Int)) (w6.drew.setCell ⟨gO, q, none⟩ (.int .i64 ((s : Int) + (z : Int)))) := by
        have hgd : w6.grownBy w6.drew none := ⟨rfl, rfl, rfl, Nat.le_refl _, fun _ _ _ => rfl⟩
        have hgo : w.heap.size ≤ gO := (Ho6.out.lt gO rfl).1
        have hg2 := hso.2
        refine ⟨j1, k + 1, xs.set q ((s : Int) + (z : Int)), rfl, by omega, by rw [List.length_set, Hxl.out], rl_set Hxb.out hsum.1 hsum.2, hst6, ?_, grownBy_step (grownBy_step Hg6.out hgd (fun k hk => by cases hk)) hg2 (fun k hk => by cases hk; exact .inr hgo)⟩
        exact (((Hr6.out.kept hgd (fun k hk => by cases hk)).kept hg2 (fun k hk => by cases hk; omega))).mono (by omega)
      have hws : wrap64 ((s : Int) + (z : Int)) = (s : Int) + (z : Int) := IntWalk.wrap64_in _ (by omega)
      have hwp := wrap_pow u (by omega)
      rw [← hz] at hwp
      have Hset := Lib.hid hset
      have Hz := Lib.hid hz
      clear hkeep hb hr6 hg6 hdx hdx1 hxx hso hst6 hset hz
      cases dn with
      | true =>
        by_cases hle : q ≤ u
        · have hle' : decide ((q : Int) ≤ (u : Int)) = true := by simp; omega
          go_wp2_with fail
          go_roundw
          case rel => have h9 := Hkeep.out; simpa using h9
          case measure => simp [intOf] <;> omega
        · have hle' : decide ((q : Int) ≤ (u : Int)) = false := by simp; omega
          rcases bit_tf s u with hB | hB
          · rw [bitI_1 hB] at k6
            clear hB
            go_wp2_with fail
            refine (k6.out).mono ?_
            rintro ee wx ⟨rfl, rfl⟩
            go_wp2_with fail
            go_roundw
            case rel => have h9 := Hkeep.out; simpa using h9
            case measure => simp [intOf] <;> omega
          · rw [bitI_0 hB] at k6
            clear hB
            go_wp2_with fail
            refine (k6.out).mono ?_
            rintro ee wx ⟨rfl, rfl⟩
            go_wp2_with fail
            go_still_tail 10, (by kernel_rfl)
            change wpList _ _ _ _ _ w6.drew
            go_wp2_with fail
            go_roundw
            case rel => (try rw [hws]); exact Hset.out
            case measure => simp [intOf] <;> omega
      | false =>
        rcases bit_tf s u with hB | hB
        · rw [bitI_1 hB] at k6
          clear hB
          go_wp2_with fail
          refine (k6.out).mono ?_
          rintro ee wx ⟨rfl, rfl⟩
          go_wp2_with fail
          go_roundw
          case rel => have h9 := Hkeep.out; simpa using h9
          case measure => simp [intOf] <;> omega
        · rw [bitI_0 hB] at k6
          clear hB
          go_wp2_with fail
          refine (k6.out).mono ?_
          rintro ee wx ⟨rfl, rfl⟩
          go_wp2_with fail
          go_still_tail 10, (by kernel_rfl)
          change wpList _ _ _ _ _ w6.drew
          go_wp2_with fail
          go_roundw
          case rel => (try rw [hws]); exact Hset.out
          case measure => simp [intOf] <;> omega
    · obtain rfl : j = 0 := by omega
      have ko := Lib.hid (odd_any g (P + 3 + 2 * k) n wA (by omega) (by omega) (by omega) hr)
      clear hxl hxb ho hr hg
      go_wp2_with fail
      refine (ko.out).mono ?_
      rintro ee w7 ⟨b, rfl, hr7, hg7⟩
      have Ho7 := Lib.hid (own_rd Ho.out hg7 hgl)
      have Hg7 := Lib.hid (grownBy_trans Hg.out hg7)
      have Hr7 := Lib.hid hr7
      clear hr7 hg7
      cases b with
      | false =>
        go_wp2_with fail
        go_ret
        exact ⟨xs, gO, D, D, Hxl.out.symm, rfl, Ho7.out, by omega, Hr7.out.mono (by omega), Hg7.out⟩
      | true =>
        have kp := Lib.hid (pick_any g (P + 3 + 2 * k + 1) 3 w7 (by omega) (by decide) (by decide) Hr7.out)
        go_wp2_with fail
        refine (kp.out).mono ?_
        rintro ee w8 ⟨c, rfl, hc, hr8, hg8⟩
        have c0 := hc.1
        have c1 := hc.2.1 (by decide)
        have Ho8 := Lib.hid (own_rd Ho7.out hg8 hgl)
        have Hg8 := Lib.hid (grownBy_trans Hg7.out hg8)
        have Hr8 := Lib.hid hr8
        have hw8 : w.heap.size ≤ w8.heap.size := Hg8.out.size
        clear hc hr8 hg8
        have hcase : c = 0 ∨ c = 1 ∨ c = 2 := by omega
        rcases hcase with rfl | rfl | rfl
        · have hg9 := World.grownBy_alloc w8 (.cells #[] 3) none
          have hfin : RelDrw w g P (.returned (.slice (some ⟨w8.heap.size, 0, none⟩) 0 0)) (w8.alloc (.cells #[] 3)) :=
            ⟨[], _, 0, 0, rfl, rfl, World.ownsRow_lit w8 #[] 0 hw8 (by simp [maxLen]) rfl, by omega, (Hr8.out.kept hg9 (fun k hk => by cases hk)).mono (by omega), grownBy_step Hg8.out hg9 (fun k hk => by cases hk)⟩
          have Hfin := Lib.hid hfin
          clear hg9 hfin
          go_wp2_with fail
          go_ret
          exact Hfin.out
        · go_wp2_with (first
            | (at_make; go_loud (refine wpList_make_full _ rfl (.const (.int .i64 13)) (.const (.int .i64 13)) 23 rfl w8.heap.size 3 i0 _ 1 Tryd.underlying23 hi hz0 hz1 .i64 .i64 _ _ 13 rfl rfl rfl rfl (by rw [hz2]; omega) (by unfold maxLen; omega) (Nat.le_refl _) ?_; intro w9 hown hg9)))
          have hfin : RelDrw w g P (.returned (.slice (some ⟨w8.heap.size, 0, none⟩) 13 13)) w9 := by
            rw [Nat.mul_one, show (Value.int .i64 0).cells = #[Value.int .i64 0] from rfl, toList_madeCells_one] at hown
            exact ⟨List.replicate 13 0, _, 13, 13, by simp, rfl, Joins.ownsRow_le (by simpa [ints] using hown) hw8, by omega, (Hr8.out.kept hg9 (fun k hk => by cases hk)).mono (by omega), grownBy_step Hg8.out hg9 (fun k hk => by cases hk)⟩
          have Hfin := Lib.hid hfin
          clear hown hg9 hfin
          go_wp2_with fail
          go_ret
          exact Hfin.out
        · have Hpk := Lib.hid (fun (wx : World) (hx : w8.grownBy wx none) => pick2_any g (P + 3 + 2 * k + 1 + 1) wx (by omega) (Hr8.out.kept hx (fun k hk => by cases hk)))
          have h2p : 2 ^ D ≤ 512 := (Nat.pow_le_pow_right (by decide) hD1 : 2 ^ D ≤ 2 ^ 9)
          obtain ⟨z, hz⟩ : ∃ z : Nat, z = 2 ^ D := ⟨_, rfl⟩
          rw [← hz] at h2p
          have hpz : (2 : Int) ^ D = (z : Int) := by rw [hz]; simp
          have hwp : IntKind.i64.wrap ((2 : Int) ^ D) = (z : Int) := by rw [hpz]; exact IntWalk.i64_in _ (by omega)
          have hne8 : g ≠ w8.heap.size := by omega
          clear h2p hz hpz
          go_wp2_with fail
          -- REGION
          refine wp_region_any (by kernel_rfl) ?_
          try (change wpAny _ _ _ _ _ _ _ (World.drew _))
          refine wpAny_take (oi := ⟨some 65, _, _, _, _, _⟩) (i := 0) (v := .slice (some ⟨gO, 0, none⟩) D D) rfl (by kernel_rfl) (by kernel_rfl) (by kernel_rfl) (fun _ _ _ h => h) (Or.inl ⟨by kernel_rfl, fun w => by go_simp⟩) ?_
          simp only [Act.put, List.setIfInBounds_toArray, List.set_cons_zero, List.set_cons_succ]
          refine wpAny_take (oi := ⟨some 66, _, _, _, _, _⟩) (i := 1) (v := .int .i64 (D : Int)) rfl (by kernel_rfl) (by kernel_rfl) (by kernel_rfl) (fun _ _ _ h => h) (Or.inl ⟨by kernel_rfl, fun w => by go_simp⟩) ?_
          simp only [Act.put, List.setIfInBounds_toArray, List.set_cons_zero, List.set_cons_succ]
          refine wpAny_take (oi := ⟨some 67, _, _, _, _, _⟩) (i := 2) (v := .int .i64 (z : Int)) rfl (by kernel_rfl) (by kernel_rfl) (by kernel_rfl) (fun _ _ _ h => h) (Or.inl ⟨by kernel_rfl, fun w => by (go_simp; try rw [hwp])⟩) ?_
          simp only [Act.put, List.setIfInBounds_toArray, List.set_cons_zero, List.set_cons_succ]
          refine wpAny_take (oi := ⟨some 69, _, _, _, _, _⟩) (i := 4) (v := .pointer (some ⟨g, 0, none⟩)) rfl (by kernel_rfl) (by kernel_rfl) (by kernel_rfl) (fun _ _ _ h => h) (Or.inl ⟨by kernel_rfl, fun w => by go_simp⟩) ?_
          simp only [Act.put, List.setIfInBounds_toArray, List.set_cons_zero, List.set_cons_succ]
          refine wpAny_ready (rs := [3, 5]) (by kernel_rfl) (by simp) (AllReady.cons rfl (fun K hK => ?_) (AllReady.cons rfl (fun K hK => ?_) AllReady.nil))
          · go_simp
            refine hK _ _ ?_
            clear hK K
            refine wpAny_ready (rs := [5]) (by kernel_rfl) (by simp) (AllReady.cons rfl (fun K hK => ?_) AllReady.nil)
            go_simp
            go_wp2_with (first
              | (go_at_call 28; (refine (Hpk.out _ (gb_drew (gb_alloc (gb_refl _) _))).mono ?_); rintro ee w9 ⟨b, hb, rfl, hr9, hg9⟩)
              | fail)
            have hc9 := hg9.cell (rl_cell hb z w8) (fun e => hne8 (Option.some.inj e).symm)
            have hb2 : (b : Int) < 2 := by omega
            have ho9 := own_rd ((Ho8.out.alloc (.cells #[.int .i64 (-1), .int .i64 (z : Int)] 3)).drew) hg9 hgl
            have hg9w := grownBy_step (grownBy_step Hg8.out (gb_drew (gb_alloc (gb_refl _) (.cells #[.int .i64 (-1), .int .i64 (z : Int)] 3))) (fun k hk => by cases hk)) hg9 (fun k hk => by cases hk; exact .inl rfl)
            have hx0 : ∃ y, w9.cell? ⟨gO, 0, none⟩ = some (.int .i64 y) := by
              rw [ho9.cellAt 0 (by omega), ints_get xs 0 (by rw [Hxl.out]; omega)]
              exact ⟨_, rfl⟩
            obtain ⟨y, hy⟩ := hx0
            have hf9 := ho9.frozenAt 0
            have hso := ho9.stored 0 (.int .i64 (rlV b z))
            have hst9 := hso.1
            rw [rl_ints] at hst9
            have Hgg := Lib.hid (grownBy_step hg9w hso.2 (fun k hk => by cases hk; exact .inr (ho9.lt gO rfl).1))
            have Hrr := Lib.hid (hr9.kept hso.2 (fun k hk => by cases hk; have := (ho9.lt gO rfl).1; omega))
            have Hst9 := Lib.hid hst9
            clear hso hst9 ho9 hg9w hg9 hr9
            refine wpAny_take (oi := ⟨some 71, _, _, _, _, _⟩) (i := 6) (v := .pointer (some ⟨w8.heap.size, b, none⟩)) rfl (by kernel_rfl) (by kernel_rfl) (by kernel_rfl) (fun _ _ _ h => h) (Or.inl ⟨by kernel_rfl, fun w => by (go_simp; try simp [hb2])⟩) ?_
            simp only [Act.put, List.setIfInBounds_toArray, List.set_cons_zero, List.set_cons_succ]
            refine wpAny_ready (rs := [7]) (by kernel_rfl) (by simp) (AllReady.cons rfl (fun K hK => ?_) AllReady.nil)
            go_simp
            refine hK _ _ ?_
            clear hK K
            refine wpAny_take (oi := ⟨some 73, _, _, _, _, _⟩) (i := 8) (v := .pointer (some ⟨gO, 0, none⟩)) rfl (by kernel_rfl) (by kernel_rfl) (by kernel_rfl) (fun _ _ _ h => h) (Or.inl ⟨by kernel_rfl, fun w => by (go_simp; intro h0; omega)⟩) ?_
            simp only [Act.put, List.setIfInBounds_toArray, List.set_cons_zero, List.set_cons_succ]
            refine wpAny_ready (rs := [9]) (by kernel_rfl) (by simp) (AllReady.cons rfl (fun K hK => ?_) AllReady.nil)
            go_simp
            refine hK _ _ ?_
            clear hK K
            refine wpAny_done (by kernel_rfl) ?_ _
            go_wp2_with fail
            go_ret
            exact ⟨xs.set 0 (rlV b z), gO, D, D, by rw [List.length_set, Hxl.out], rfl, Hst9.out, by omega, Hrr.out.mono (by omega), Hgg.out⟩
          · go_simp
            go_wp2_with (first
              | (go_at_call 28; (refine (Hpk.out _ (gb_drew (gb_refl _))).mono ?_); rintro ee w9 ⟨b, hb, rfl, hr9, hg9⟩)
              | fail)
            refine wpAny_ready (rs := [3]) (by kernel_rfl) (by simp) (AllReady.cons rfl (fun K hK => ?_) AllReady.nil)
            go_simp
            refine hK _ _ ?_
            clear hK K
            have ho9 := own_rd Ho8.out.drew hg9 hgl
            have hg9w := grownBy_step (grownBy_step Hg8.out (gb_drew (gb_refl _)) (fun k hk => by cases hk)) hg9 (fun k hk => by cases hk; exact .inl rfl)
            have hga := World.grownBy_alloc w9 (.cells #[.int .i64 (-1), .int .i64 (z : Int)] 3) none
            have ho9 := ho9.alloc (.cells #[.int .i64 (-1), .int .i64 (z : Int)] 3)
            have hg9w := grownBy_step hg9w hga (fun k hk => by cases hk)
            have hr9 := hr9.kept hga (fun k hk => by cases hk)
            have hc9 := rl_cell hb z w9
            have hb2 : (b : Int) < 2 := by omega
            have hs9 := hg9.size
            have hx0 : ∃ y, (w9.alloc (.cells #[.int .i64 (-1), .int .i64 (z : Int)] 3)).cell? ⟨gO, 0, none⟩ = some (.int .i64 y) := by
              rw [ho9.cellAt 0 (by omega), ints_get xs 0 (by rw [Hxl.out]; omega)]
              exact ⟨_, rfl⟩
            obtain ⟨y, hy⟩ := hx0
            have hf9 := ho9.frozenAt 0
            have hso := ho9.stored 0 (.int .i64 (rlV b z))
            have hst9 := hso.1
            rw [rl_ints] at hst9
            have Hgg := Lib.hid (grownBy_step hg9w hso.2 (fun k hk => by cases hk; exact .inr (ho9.lt gO rfl).1))
            have Hrr := Lib.hid (hr9.kept hso.2 (fun k hk => by cases hk; have := (ho9.lt gO rfl).1; omega))
            have Hst9 := Lib.hid hst9
            clear hso hst9 ho9 hg9w hg9 hr9
            refine wpAny_take (oi := ⟨some 71, _, _, _, _, _⟩) (i := 6) (v := .pointer (some ⟨w9.heap.size, b, none⟩)) rfl (by kernel_rfl) (by kernel_rfl) (by kernel_rfl) (fun _ _ _ h => h) (Or.inl ⟨by kernel_rfl, fun w => by (go_simp; try simp [hb2])⟩) ?_
            simp only [Act.put, List.setIfInBounds_toArray, List.set_cons_zero, List.set_cons_succ]
            refine wpAny_ready (rs := [7]) (by kernel_rfl) (by simp) (AllReady.cons rfl (fun K hK => ?_) AllReady.nil)
            go_simp
            refine hK _ _ ?_
            clear hK K
            refine wpAny_take (oi := ⟨some 73, _, _, _, _, _⟩) (i := 8) (v := .pointer (some ⟨gO, 0, none⟩)) rfl (by kernel_rfl) (by kernel_rfl) (by kernel_rfl) (fun _ _ _ h => h) (Or.inl ⟨by kernel_rfl, fun w => by (go_simp; intro h0; omega)⟩) ?_
            simp only [Act.put, List.setIfInBounds_toArray, List.set_cons_zero, List.set_cons_succ]
            refine wpAny_ready (rs := [9]) (by kernel_rfl) (by simp) (AllReady.cons rfl (fun K hK => ?_) AllReady.nil)
            go_simp
            refine hK _ _ ?_
            clear hK K
            refine wpAny_done (by kernel_rfl) ?_ _
            go_wp2_with fail
            go_ret
            exact ⟨xs.set 0 (rlV b z), gO, D, D, by rw [List.length_set, Hxl.out], rfl, Hst9.out, by omega, Hrr.out.mono (by omega), Hgg.out⟩
          -- END REGION

end Go.Proofs.YtagdeifalkenhaaDoor
