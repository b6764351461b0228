/- A battle in memory of its own: copyOf of the program. -/
import Derived.Test.YtdcgcohfbcdnnaaBtV
import Derived.Deep.RegionWith
namespace Go.Proofs.Ytdcgcohfbcdnnaa
set_option maxRecDepth 100000
open Go.RowKit

/-- A battle whose rows are the call's own, no two of them in one block. -/
def BtOwn (B : Nat) (w : World) (v : Value) (b : Bt) : Prop :=
  ∃ (x1 x2 x3 : Option Addr) (y1 y2 y3 n1 n2 n3 : Nat), v = .agg #[.slice x1 n1 y1, .int .i64 b.copies, .slice x2 n2 y2, .slice x3 n3 y3] ∧
    w.ownsRow B 3 1 (.slice x1 n1 y1) n1 (ints b.first) ∧ w.ownsRow B 3 1 (.slice x2 n2 y2) n2 (ints b.cuts) ∧ w.ownsRow B 3 1 (.slice x3 n3 y3) n3 (ints b.now) ∧
    (∀ k, (Value.slice x1 n1 y1).ownBlock = some k → (Value.slice x2 n2 y2).ownBlock ≠ some k ∧ (Value.slice x3 n3 y3).ownBlock ≠ some k) ∧ (∀ k, (Value.slice x2 n2 y2).ownBlock = some k → (Value.slice x3 n3 y3).ownBlock ≠ some k)

set_option maxHeartbeats 16000000 in
theorem impl_copyOf (a1 a2 a3 : Option Addr) (n1 c1 n2 c2 n3 c3 : Nat) (b : Bt) (w : World) (hl1 : n1 ≤ 1000000) (hl2 : n2 ≤ 1000000) (hl3 : n3 ≤ 1000000) (h1 : Sl w a1 n1 c1 b.first) (h2 : Sl w a2 n2 c2 b.cuts) (h3 : Sl w a3 n3 c3 b.now) :
    Calls Try.prog 61 #[.agg #[.slice a1 n1 c1, .int .i64 b.copies, .slice a2 n2 c2, .slice a3 n3 c3]] w fun e w' => ∃ v, e = .returned v ∧ BtOwn w.heap.size w' v b ∧ Below w.heap.size w w' := by
  obtain ⟨xf, q, xc, xn⟩ := b
  dsimp only at h1 h2 h3 ⊢
  obtain ⟨W1, hW1, hB1, hbW1, e1⟩ := box_four w (.slice a1 n1 c1) (.int .i64 q) (.slice a2 n2 c2) (.slice a3 n3 c3) 36
  obtain ⟨W2, hW2, hB2, hbW2, e2⟩ := box_four W1 (.slice none 0 0) (.int .i64 0) (.slice none 0 0) (.slice none 0 0) 36
  have hA : (w.alloc (.cells #[.slice a1 n1 c1, .int .i64 q, .slice a2 n2 c2, .slice a3 n3 c3] 36)).alloc (.cells #[.slice none 0 0, .int .i64 0, .slice none 0 0, .slice none 0 0] 36) = W2 := by rw [hW1, hW2]
  have hb02 : Below w.heap.size w W2 := hbW1.trans (hbW2.mono hbW1.size)
  have B1 := hB1.below hbW2 (by omega)
  rw [e1] at hB2
  obtain ⟨G, hG⟩ : ∃ g, g = w.heap.size := ⟨_, rfl⟩
  have HG := Lib.hid hG
  have K1 := Lib.hid (fun w' (hb : Below W2.heap.size W2 w') => clone_any a1 n1 c1 xf w' (h1.below (hb02.trans (hb.mono hb02.size))) hl1)
  have K2 := Lib.hid (fun w' (hb : Below W2.heap.size W2 w') => clone_any a2 n2 c2 xc w' (h2.below (hb02.trans (hb.mono hb02.size))) hl2)
  have K3 := Lib.hid (fun w' (hb : Below W2.heap.size W2 w') => clone_any a3 n3 c3 xn w' (h3.below (hb02.trans (hb.mono hb02.size))) hl3)
  have x0 := B1.c0
  have x2 := B1.c2
  have x3 := B1.c3
  have z0 : W2.drew.cell? ⟨w.heap.size, 0, none⟩ = some (.slice a1 n1 c1) := x0
  have z2 : W2.drew.cell? ⟨w.heap.size, 2, none⟩ = some (.slice a2 n2 c2) := x2
  have z3 : W2.drew.cell? ⟨w.heap.size, 3, none⟩ = some (.slice a3 n3 c3) := x3
  have HB1 := Lib.hid B1
  have HB2 := Lib.hid hB2
  have Hb := Lib.hid hb02
  have Hs := Lib.hid (show W2.heap.size = w.heap.size + 1 + 1 by omega)
  have Hd := Lib.hid (show Below W2.heap.size W2 W2.drew from (Below.refl _ _).drew)
  clear hW1 hW2 hB1 hB2 hbW1 hbW2 e1 e2 hb02 B1 h1 h2 h3 hG
  go_enter Try.func61, Try.ntmps61
  go_wp2_with fail
  go_region_with (first
    | (go_at_call 57; (with_reducible refine (K1.out _ Hd.out).mono ?_); rintro ee w1 ⟨s1, t1, rfl, ho1, hb1⟩; have hbW1 := Lib.hid (Hd.out.trans (hb1.mono Hd.out.size)); have u0 := (hb1.cell (p := ⟨w.heap.size, 0, none⟩) (World.block_lt_of_cell? _ _ z0)).trans z0; have u2 := (hb1.cell (p := ⟨w.heap.size, 2, none⟩) (World.block_lt_of_cell? _ _ z2)).trans z2; have u3 := (hb1.cell (p := ⟨w.heap.size, 3, none⟩) (World.block_lt_of_cell? _ _ z3)).trans z3; have Ho1 := Lib.hid ho1; have Hb1 := Lib.hid hb1; clear ho1 hb1)
    | (go_at_call 57; (with_reducible refine (K2.out _ hbW1.out).mono ?_); rintro ee w2 ⟨s2, t2, rfl, ho2, hb2⟩; have hbW2 := Lib.hid (hbW1.out.trans (hb2.mono hbW1.out.size)); have v0 := (hb2.cell (p := ⟨w.heap.size, 0, none⟩) (World.block_lt_of_cell? _ _ u0)).trans u0; have v2 := (hb2.cell (p := ⟨w.heap.size, 2, none⟩) (World.block_lt_of_cell? _ _ u2)).trans u2; have v3 := (hb2.cell (p := ⟨w.heap.size, 3, none⟩) (World.block_lt_of_cell? _ _ u3)).trans u3; have Ho2 := Lib.hid ho2; have Hb2 := Lib.hid hb2; clear ho2 hb2)
    | (go_at_call 57; (with_reducible refine (K3.out _ hbW2.out).mono ?_); rintro ee w3 ⟨s3, t3, rfl, ho3, hb3⟩; have hbW3 := Lib.hid (hbW2.out.trans (hb3.mono hbW2.out.size)); have D1 := HB1.out.below hbW3.out (by have := Hs.out; omega); have D2 := HB2.out.below hbW3.out (by have := Hs.out; omega); have q0 := D1.c0; have f0 := D1.f 0; obtain ⟨W4, hW4⟩ : ∃ W, w3.setCell ⟨w.heap.size, 0, none⟩ (.slice s1 n1 t1) = W := ⟨_, rfl⟩; have E1 := D1.s0 (.slice s1 n1 t1); have E2 := D2.other ⟨w.heap.size, 0, none⟩ (.slice s1 n1 t1) (by show w.heap.size ≠ _; omega); rw [hW4] at E1 E2; have q2 := E1.c2; have f2 := E1.f 2; obtain ⟨W5, hW5⟩ : ∃ W, W4.setCell ⟨w.heap.size, 2, none⟩ (.slice s2 n2 t2) = W := ⟨_, rfl⟩; have F1 := E1.s2 (.slice s2 n2 t2); have F2 := E2.other ⟨w.heap.size, 2, none⟩ (.slice s2 n2 t2) (by show w.heap.size ≠ _; omega); rw [hW5] at F1 F2; have q3 := F1.c3; have f3 := F1.f 3; obtain ⟨W6, hW6⟩ : ∃ W, W5.setCell ⟨w.heap.size, 3, none⟩ (.slice s3 n3 t3) = W := ⟨_, rfl⟩; have I1 := F1.s3 (.slice s3 n3 t3); have I2 := F2.other ⟨w.heap.size, 3, none⟩ (.slice s3 n3 t3) (by show w.heap.size ≠ _; omega); rw [hW6] at I1 I2; have HI1 := Lib.hid I1; have HI2 := Lib.hid I2; have Ho3 := Lib.hid ho3; have Hb3 := Lib.hid hb3; have HW4 := Lib.hid hW4; have HW5 := Lib.hid hW5; have HW6 := Lib.hid hW6; clear ho3 hb3 D1 D2 E1 E2 F1 F2 I1 I2)
    | fail)
  all_goals
    have hs2 := Hs.out
    have I1 := HI1.out
    have I2 := HI2.out
    have p0 := I1.c0
    have p1 := I1.c1
    have p2 := I1.c2
    have p3 := I1.c3
    have r0 := I2.c0
    have g0 := I2.f 0
    obtain ⟨W7, hW7⟩ : ∃ W, W6.setCell ⟨w.heap.size + 1, 0, none⟩ (.slice s1 n1 t1) = W := ⟨_, rfl⟩
    have J2 := I2.s0 (.slice s1 n1 t1)
    rw [hW7] at J2
    have r1 := J2.c1
    have g1 := J2.f 1
    obtain ⟨W8, hW8⟩ : ∃ W, W7.setCell ⟨w.heap.size + 1, 1, none⟩ (.int .i64 q) = W := ⟨_, rfl⟩
    have K2' := J2.s1 (.int .i64 q)
    rw [hW8] at K2'
    have r2 := K2'.c2
    have g2 := K2'.f 2
    obtain ⟨W9, hW9⟩ : ∃ W, W8.setCell ⟨w.heap.size + 1, 2, none⟩ (.slice s2 n2 t2) = W := ⟨_, rfl⟩
    have L2 := K2'.s2 (.slice s2 n2 t2)
    rw [hW9] at L2
    have r3 := L2.c3
    have g3 := L2.f 3
    obtain ⟨Wa, hWa⟩ : ∃ W, W9.setCell ⟨w.heap.size + 1, 3, none⟩ (.slice s3 n3 t3) = W := ⟨_, rfl⟩
    have M2 := L2.s3 (.slice s3 n3 t3)
    rw [hWa] at M2
    have e0 := M2.c0
    have e1 := M2.c1
    have e2 := M2.c2
    have e3 := M2.c3
    have hd1 := Hd.out.size
    have hd2 := Hb1.out.size
    have hd3 := Hb2.out.size
    have own : ∀ (B n : Nat) (s : Option Addr) (t : Nat) (xs : List Int), w.heap.size + 2 ≤ B → w3.ownsRow B 3 1 (.slice s n t) n (ints xs) → Wa.ownsRow w.heap.size 3 1 (.slice s n t) n (ints xs) := by
      intro B n s t xs hB ho
      have y1 := ownsRow_setCell_below ho (a := ⟨w.heap.size, 0, none⟩) (by show w.heap.size < B; omega) (.slice s1 n1 t1)
      rw [HW4.out] at y1
      have y2 := ownsRow_setCell_below y1 (a := ⟨w.heap.size, 2, none⟩) (by show w.heap.size < B; omega) (.slice s2 n2 t2)
      rw [HW5.out] at y2
      have y3 := ownsRow_setCell_below y2 (a := ⟨w.heap.size, 3, none⟩) (by show w.heap.size < B; omega) (.slice s3 n3 t3)
      rw [HW6.out] at y3
      have y4 := ownsRow_setCell_below y3 (a := ⟨w.heap.size + 1, 0, none⟩) (by show w.heap.size + 1 < B; omega) (.slice s1 n1 t1)
      rw [hW7] at y4
      have y5 := ownsRow_setCell_below y4 (a := ⟨w.heap.size + 1, 1, none⟩) (by show w.heap.size + 1 < B; omega) (.int .i64 q)
      rw [hW8] at y5
      have y6 := ownsRow_setCell_below y5 (a := ⟨w.heap.size + 1, 2, none⟩) (by show w.heap.size + 1 < B; omega) (.slice s2 n2 t2)
      rw [hW9] at y6
      have y7 := ownsRow_setCell_below y6 (a := ⟨w.heap.size + 1, 3, none⟩) (by show w.heap.size + 1 < B; omega) (.slice s3 n3 t3)
      rw [hWa] at y7
      exact Joins.ownsRow_le y7 (by omega)
    have o1 := ownsRow_below' (ownsRow_below' Ho1.out Hb2.out) Hb3.out
    have o2 := ownsRow_below' Ho2.out Hb3.out
    have o3 := Ho3.out
    have bD : Below w.heap.size w Wa := by
      rw [← hWa, ← hW9, ← hW8, ← hW7, ← HW6.out, ← HW5.out, ← HW4.out]
      have b0 : Below w.heap.size w w3 := Hb.out.trans (hbW3.out.mono (by omega))
      exact ((((((b0.setCell (Nat.le_refl _) _).setCell (Nat.le_refl _) _).setCell (Nat.le_refl _) _).setCell (Nat.le_succ _) _).setCell (Nat.le_succ _) _).setCell (Nat.le_succ _) _).setCell (Nat.le_succ _) _
    have HF := Lib.hid (show BtOwn w.heap.size Wa (.agg #[.slice s1 n1 t1, .int .i64 q, .slice s2 n2 t2, .slice s3 n3 t3]) ⟨xf, q, xc, xn⟩ from
      ⟨s1, s2, s3, t1, t2, t3, n1, n2, n3, rfl, own _ n1 s1 t1 xf (by omega) o1, own _ n2 s2 t2 xc (by omega) o2, own _ n3 s3 t3 xn (by omega) o3,
        fun k hk => ⟨fun h => by have i1 := (Ho1.out.lt k hk).2; have i2 := (Ho2.out.lt k h).1; omega, fun h => by have i1 := (Ho1.out.lt k hk).2; have i2 := (Ho3.out.lt k h).1; omega⟩,
        fun k hk h => by have i1 := (Ho2.out.lt k hk).2; have i2 := (Ho3.out.lt k h).1; omega⟩)
    have HbD := Lib.hid bD
    clear hs2 I1 I2 J2 K2' L2 M2 own o1 o2 o3 bD hd1 hd2 hd3
    go_wp2_with fail
    refine bodyPost_ret (v := .agg #[.slice s1 n1 t1, .int .i64 q, .slice s2 n2 t2, .slice s3 n3 t3]) (by simp [results, Try.f61, go_sem, e0, e1, e2, e3]) rfl ?_
    exact ⟨_, rfl, HF.out, HbD.out⟩

end Go.Proofs.Ytdcgcohfbcdnnaa
