/- BattleNew of the program and of the model. -/
import Derived.Test.YtdcgcohfbcdnnaaBtC
namespace Go.Proofs.Ytdcgcohfbcdnnaa
set_option maxRecDepth 100000
open Go.RowKit

/-- BattleNew. -/
noncomputable def newB (xs : List Int) (n : Int) : Bt := if H.hvB xs = true ∧ 1 ≤ n ∧ n ≤ 9 then ⟨xs, n, [], xs⟩ else ⟨[], 0, [], []⟩

theorem zero_own (B : Nat) (w : World) : BtOwn B w (.agg #[.slice none 0 0, .int .i64 0, .slice none 0 0, .slice none 0 0]) ⟨[], 0, [], []⟩ :=
  ⟨none, none, none, 0, 0, 0, 0, 0, 0, rfl, World.ownsRow_nil _ _ _ _, World.ownsRow_nil _ _ _ _, World.ownsRow_nil _ _ _ _, fun k h => by simp [Value.ownBlock] at h, fun k h => by simp [Value.ownBlock] at h⟩

theorem BtOwn.le {B B' : Nat} {w : World} {v : Value} {b : Bt} (h : BtOwn B w v b) (hB : B' ≤ B) : BtOwn B' w v b := by
  obtain ⟨x1, x2, x3, y1, y2, y3, n1, n2, n3, hv, o1, o2, o3, d1, d2⟩ := h
  exact ⟨x1, x2, x3, y1, y2, y3, n1, n2, n3, hv, Joins.ownsRow_le o1 hB, Joins.ownsRow_le o2 hB, Joins.ownsRow_le o3 hB, d1, d2⟩
theorem BtOwn.below {B : Nat} {w w' : World} {v : Value} {b : Bt} (h : BtOwn B w v b) (hb : Below w.heap.size w w') : BtOwn B w' v b := by
  obtain ⟨x1, x2, x3, y1, y2, y3, n1, n2, n3, hv, o1, o2, o3, d1, d2⟩ := h
  exact ⟨x1, x2, x3, y1, y2, y3, n1, n2, n3, hv, ownsRow_below' o1 hb, ownsRow_below' o2 hb, ownsRow_below' o3 hb, d1, d2⟩
/-- A store ahead of its rows. -/
theorem BtOwn.set {B : Nat} {w : World} {v : Value} {b : Bt} (h : BtOwn B w v b) {a : Addr} (ha : a.block < B) (u : Value) : BtOwn B (w.setCell a u) v b := by
  obtain ⟨x1, x2, x3, y1, y2, y3, n1, n2, n3, hv, o1, o2, o3, d1, d2⟩ := h
  exact ⟨x1, x2, x3, y1, y2, y3, n1, n2, n3, hv, ownsRow_setCell_below o1 ha u, ownsRow_setCell_below o2 ha u, ownsRow_setCell_below o3 ha u, d1, d2⟩

/-- A battle is stored in a cell of its own and read again. -/
theorem bt_store {w0 w : World} {B g : Nat} {u0 u1 u2 u3 : Value} {s1 s2 s3 q : Value} {b : Bt} {T : TypeId} (hB : Blk4 w g u0 u1 u2 u3 T) (hg : g < B) (hw : w0.heap.size ≤ g) (hb : Below w0.heap.size w0 w)
    (ho : BtOwn B w (.agg #[s1, q, s2, s3]) b) : ∃ W, (((w.setCell ⟨g, 0, none⟩ s1).setCell ⟨g, 1, none⟩ q).setCell ⟨g, 2, none⟩ s2).setCell ⟨g, 3, none⟩ s3 = W ∧ Blk4 W g s1 q s2 s3 T ∧ BtOwn B W (.agg #[s1, q, s2, s3]) b ∧ Below w0.heap.size w0 W ∧ W.heap.size = w.heap.size :=
  ⟨_, rfl, (((hB.s0 s1).s1 q).s2 s2).s3 s3, (((ho.set hg s1).set hg q).set hg s2).set hg s3, (((hb.setCell hw s1).setCell hw q).setCell hw s2).setCell hw s3, by simp [World.setCell]⟩

set_option maxHeartbeats 4000000 in
theorem impl_BattleNew (a1 : Option Addr) (n1 c1 : Nat) (xs : List Int) (n : Int) (w : World) (h : Sl w a1 n1 c1 xs) :
    Calls Try.prog 28 #[.slice a1 n1 c1, .int .i64 n] w fun e w' => ∃ v, e = .returned v ∧ BtOwn w.heap.size w' v (newB xs n) ∧ Below w.heap.size w w' := by
  obtain ⟨W, hW, hB, hbW, hsW⟩ := box_four w (.slice none 0 0) (.int .i64 0) (.slice none 0 0) (.slice none 0 0) 36
  have hw := h.below hbW
  have k1 := Lib.hid (impl_HydraValid a1 n1 c1 xs W hw)
  have k2 := Lib.hid (isCopies_any n W)
  have HB := Lib.hid hB
  have HbW := Lib.hid hbW
  have HsW := Lib.hid hsW
  by_cases hok : H.hvB xs = true ∧ 1 ≤ n ∧ n ≤ 9
  · have hnb : newB xs n = ⟨xs, n, [], xs⟩ := if_pos hok
    rw [hnb]
    rw [hok.1] at k1
    rw [decide_eq_true hok.2] at k2
    have hl := H.hv_len hok.1
    have hn1 : n1 ≤ 1000000 := by have := h.1; omega
    have k3' := impl_copyOf a1 none a1 n1 c1 0 0 n1 c1 ⟨xs, n, [], xs⟩ W hn1 (by omega) hn1 hw ⟨rfl, Nat.le_refl _, Nat.zero_le _, fun h => by omega⟩ hw
    dsimp only at k3'
    have k3 := Lib.hid k3'
    have p0 := hB.c0
    have f0 := hB.f 0
    clear k3' hB hbW hw h hok hnb hl hsW
    go_enter Try.func28, Try.ntmps28
    go_wp2_with fail
    refine (k1.out).mono ?_
    rintro ee w' ⟨rfl, rfl⟩
    go_wp2_with fail
    refine (k2.out).mono ?_
    rintro ee w' ⟨rfl, rfl⟩
    go_wp2_with fail
    refine (k3.out).mono ?_
    rintro ee w4 ⟨v, rfl, ho4, hb4⟩
    have hs := HsW.out
    have B4 := HB.out.below hb4 HB.out.lt
    have ho4' := ho4
    obtain ⟨x1, x2, x3, y1, y2, y3, m1, m2, m3, rfl, _⟩ := ho4'
    have r0 := B4.c0
    have g0 := B4.f 0
    obtain ⟨W7, hW7⟩ : ∃ W, w4.setCell ⟨w.heap.size, 0, none⟩ (.slice x1 m1 y1) = W := ⟨_, rfl⟩
    have J2 := B4.s0 (.slice x1 m1 y1)
    rw [hW7] at J2
    have r1 := J2.c1
    have g1 := J2.f 1
    obtain ⟨W8, hW8⟩ : ∃ W, W7.setCell ⟨w.heap.size, 1, none⟩ (.int .i64 n) = W := ⟨_, rfl⟩
    have K2' := J2.s1 (.int .i64 n)
    rw [hW8] at K2'
    have r2 := K2'.c2
    have g2 := K2'.f 2
    obtain ⟨W9, hW9⟩ : ∃ W, W8.setCell ⟨w.heap.size, 2, none⟩ (.slice x2 m2 y2) = W := ⟨_, rfl⟩
    have L2 := K2'.s2 (.slice x2 m2 y2)
    rw [hW9] at L2
    have r3 := L2.c3
    have g3 := L2.f 3
    obtain ⟨Wa, hWa⟩ : ∃ W, W9.setCell ⟨w.heap.size, 3, none⟩ (.slice x3 m3 y3) = W := ⟨_, rfl⟩
    have M2 := L2.s3 (.slice x3 m3 y3)
    rw [hWa] at M2
    have e0 := M2.c0
    have e1 := M2.c1
    have e2 := M2.c2
    have e3 := M2.c3
    have HF := Lib.hid (show BtOwn w.heap.size Wa (.agg #[.slice x1 m1 y1, .int .i64 n, .slice x2 m2 y2, .slice x3 m3 y3]) ⟨xs, n, [], xs⟩ ∧ Below w.heap.size w Wa from by
      obtain ⟨V, hV, _, ho, hb, _⟩ := bt_store (w0 := w) B4 (by omega) (Nat.le_refl _) (HbW.out.trans (hb4.mono HbW.out.size)) ho4
      rw [hW7, hW8, hW9, hWa] at hV
      subst hV
      exact ⟨ho.le (by omega), hb⟩)
    clear hs B4 ho4 hb4 J2 K2' L2 M2
    go_wp2_with fail
    refine bodyPost_ret (v := .agg #[.slice x1 m1 y1, .int .i64 n, .slice x2 m2 y2, .slice x3 m3 y3]) (by simp [results, Try.f28, go_sem, e0, e1, e2, e3]) rfl ?_
    exact ⟨_, rfl, HF.out.1, HF.out.2⟩
  · have hnb : newB xs n = ⟨[], 0, [], []⟩ := if_neg hok
    rw [hnb]
    cases hv : H.hvB xs with
    | false =>
      rw [hv] at k1
      clear hB hbW hw h hok hnb hsW hv
      go_enter Try.func28, Try.ntmps28
      go_wp2_with fail
      refine (k1.out).mono ?_
      rintro ee w' ⟨rfl, rfl⟩
      have r0 := HB.out.c0
      have g0 := HB.out.f 0
      obtain ⟨W7, hW7⟩ : ∃ W', W.setCell ⟨w.heap.size, 0, none⟩ (.slice none 0 0) = W' := ⟨_, rfl⟩
      have J2 := HB.out.s0 (.slice none 0 0)
      rw [hW7] at J2
      have r1 := J2.c1
      have g1 := J2.f 1
      obtain ⟨W8, hW8⟩ : ∃ W', W7.setCell ⟨w.heap.size, 1, none⟩ (.int .i64 0) = W' := ⟨_, rfl⟩
      have K2' := J2.s1 (.int .i64 0)
      rw [hW8] at K2'
      have r2 := K2'.c2
      have g2 := K2'.f 2
      obtain ⟨W9, hW9⟩ : ∃ W', W8.setCell ⟨w.heap.size, 2, none⟩ (.slice none 0 0) = W' := ⟨_, rfl⟩
      have L2 := K2'.s2 (.slice none 0 0)
      rw [hW9] at L2
      have r3 := L2.c3
      have g3 := L2.f 3
      obtain ⟨Wa, hWa⟩ : ∃ W', W9.setCell ⟨w.heap.size, 3, none⟩ (.slice none 0 0) = W' := ⟨_, rfl⟩
      have M2 := L2.s3 (.slice none 0 0)
      rw [hWa] at M2
      have e0 := M2.c0
      have e1 := M2.c1
      have e2 := M2.c2
      have e3 := M2.c3
      have HF := Lib.hid (show BtOwn w.heap.size Wa (.agg #[.slice none 0 0, .int .i64 0, .slice none 0 0, .slice none 0 0]) ⟨[], 0, [], []⟩ ∧ Below w.heap.size w Wa from by
        refine ⟨zero_own _ _, ?_⟩
        rw [← hWa, ← hW9, ← hW8, ← hW7]
        exact (((HbW.out.setCell (Nat.le_refl _) _).setCell (Nat.le_refl _) _).setCell (Nat.le_refl _) _).setCell (Nat.le_refl _) _)
      clear J2 K2' L2 M2
      go_wp2_with fail
      refine bodyPost_ret (v := .agg #[.slice none 0 0, .int .i64 0, .slice none 0 0, .slice none 0 0]) (by simp [results, Try.f28, go_sem, e0, e1, e2, e3]) rfl ?_
      exact ⟨_, rfl, HF.out.1, HF.out.2⟩
    | true =>
      have hn : ¬ (1 ≤ n ∧ n ≤ 9) := fun h' => hok ⟨hv, h'⟩
      rw [hv] at k1
      rw [decide_eq_false hn] at k2
      clear hB hbW hw h hok hnb hsW hv
      go_enter Try.func28, Try.ntmps28
      go_wp2_with fail
      refine (k1.out).mono ?_
      rintro ee w' ⟨rfl, rfl⟩
      go_wp2_with fail
      refine (k2.out).mono ?_
      rintro ee w' ⟨rfl, rfl⟩
      have r0 := HB.out.c0
      have g0 := HB.out.f 0
      obtain ⟨W7, hW7⟩ : ∃ W', W.setCell ⟨w.heap.size, 0, none⟩ (.slice none 0 0) = W' := ⟨_, rfl⟩
      have J2 := HB.out.s0 (.slice none 0 0)
      rw [hW7] at J2
      have r1 := J2.c1
      have g1 := J2.f 1
      obtain ⟨W8, hW8⟩ : ∃ W', W7.setCell ⟨w.heap.size, 1, none⟩ (.int .i64 0) = W' := ⟨_, rfl⟩
      have K2' := J2.s1 (.int .i64 0)
      rw [hW8] at K2'
      have r2 := K2'.c2
      have g2 := K2'.f 2
      obtain ⟨W9, hW9⟩ : ∃ W', W8.setCell ⟨w.heap.size, 2, none⟩ (.slice none 0 0) = W' := ⟨_, rfl⟩
      have L2 := K2'.s2 (.slice none 0 0)
      rw [hW9] at L2
      have r3 := L2.c3
      have g3 := L2.f 3
      obtain ⟨Wa, hWa⟩ : ∃ W', W9.setCell ⟨w.heap.size, 3, none⟩ (.slice none 0 0) = W' := ⟨_, rfl⟩
      have M2 := L2.s3 (.slice none 0 0)
      rw [hWa] at M2
      have e0 := M2.c0
      have e1 := M2.c1
      have e2 := M2.c2
      have e3 := M2.c3
      have HF := Lib.hid (show BtOwn w.heap.size Wa (.agg #[.slice none 0 0, .int .i64 0, .slice none 0 0, .slice none 0 0]) ⟨[], 0, [], []⟩ ∧ Below w.heap.size w Wa from by
        refine ⟨zero_own _ _, ?_⟩
        rw [← hWa, ← hW9, ← hW8, ← hW7]
        exact (((HbW.out.setCell (Nat.le_refl _) _).setCell (Nat.le_refl _) _).setCell (Nat.le_refl _) _).setCell (Nat.le_refl _) _)
      clear J2 K2' L2 M2
      go_wp2_with fail
      refine bodyPost_ret (v := .agg #[.slice none 0 0, .int .i64 0, .slice none 0 0, .slice none 0 0]) (by simp [results, Try.f28, go_sem, e0, e1, e2, e3]) rfl ?_
      exact ⟨_, rfl, HF.out.1, HF.out.2⟩

theorem Sl.newsB {w : World} {b off len cap : Nat} {xs : List Int} (h : Sl w (some ⟨b, off, none⟩) len cap xs) : ∀ j u, (ints xs)[j]? = some u → w.cell? ((⟨b, off, none⟩ : Addr).add j) = some u := by
  intro j u hj
  have hjl := (List.getElem?_eq_some_iff.1 hj).1
  rw [ints_len] at hjl
  obtain ⟨h1, h2, h3, h4⟩ := h
  obtain ⟨b', o', h5, h6⟩ := h4 (by omega)
  cases h5
  rw [ints_get xs j hjl] at hj
  cases hj
  rw [Addr.add_lit]
  exact h6 j hjl

set_option maxHeartbeats 4000000 in
theorem spec_BattleNew (a1 : Option Addr) (n1 c1 : Nat) (xs : List Int) (n : Int) (w : World) (h : Sl w a1 n1 c1 xs) :
    Calls Try.prog 27 #[.slice a1 n1 c1, .int .i64 n] w fun e w' => ∃ v, e = .returned v ∧ BtOwn w.heap.size w' v (newB xs n) ∧ Below w.heap.size w w' := by
  obtain ⟨i0, hi, hz0, hz1, hz2⟩ := info_parts info_int
  obtain ⟨W, hW, hB, hbW, hsW⟩ := box_four w (.slice none 0 0) (.int .i64 0) (.slice none 0 0) (.slice none 0 0) 36
  have hw := h.below hbW
  have k1 := Lib.hid (spec_HydraValid a1 n1 c1 xs W hw)
  have HB := Lib.hid hB
  have HbW := Lib.hid hbW
  have HsW := Lib.hid hsW
  by_cases hok : H.hvB xs = true ∧ 1 ≤ n ∧ n ≤ 9
  · have hnb : newB xs n = ⟨xs, n, [], xs⟩ := if_pos hok
    rw [hnb]
    rw [hok.1] at k1
    have k2 := Lib.hid (l1In_yes n 1 9 W hok.2.1 hok.2.2)
    have hl := H.hv_len hok.1
    have hn1 : n1 ≤ 60 := by have := h.1; omega
    have hn0 : 0 < n1 := by have := h.1; omega
    obtain ⟨b1, off1, rfl, _⟩ := h.2.2.2 hn0
    have HLx := Lib.hid (show (ints xs).length = n1 * 1 by rw [ints_len, h.1]; omega)
    have Hw := Lib.hid hw
    clear hB hbW hw h hok hnb hl hsW
    go_enter Try.func27, Try.ntmps27
    go_wp2_with fail
    refine (k1.out).mono ?_
    rintro ee w' ⟨rfl, rfl⟩
    go_wp2_with fail
    refine (k2.out).mono ?_
    rintro ee w' ⟨rfl, rfl⟩
    have HO := Lib.hid (World.ownsRow_lit (base := W.heap.size) (e := 3) (size := 1) W #[] 0 (Nat.le_refl _) (by simp [maxLen]) rfl)
    have HN := Lib.hid (Sl.newsB (Hw.out.below ((Below.refl W.heap.size W).alloc (Nat.le_refl _) (.cells #[] 3))))
    go_wp2_with (first
      | (at_builtin; refine wpList_append_own _ rfl (.tmp 14) (.tmp 15) 22 rfl W.heap.size 3 i0 (.int .i64 0) 1 8 Try.underlying22 hi hz0 hz1 hz2 rfl (by decide) _ 0 [] rfl HO.out ⟨b1, off1, none⟩ n1 c1 (ints xs) rfl HLx.out HN.out (ints_oneCell _ xs) (by unfold maxLen; omega) (by omega) (by simp) ?_; intro v3 w3 ho3 hg3 _; have hbA := ((Below.refl W.heap.size W).alloc (Nat.le_refl _) (.cells #[] 3)).grown hg3 (by simp) (fun r e => (HO.out.lt r e).1); obtain ⟨a3, c3, hv3, _⟩ := own_form ho3; rw [Nat.zero_add] at ho3 hv3; subst hv3; have HO3 := Lib.hid (show w3.ownsRow W.heap.size 3 1 (.slice a3 n1 c3) n1 (ints xs) by simpa using ho3); have HbA := Lib.hid hbA; have HL2 := Lib.hid (World.ownsRow_lit (base := w3.heap.size) (e := 3) (size := 1) w3 #[] 0 (Nat.le_refl _) (by simp [maxLen]) rfl); have HO2 := Lib.hid (show ((w3.alloc (.cells #[] 3)).alloc (.cells #[] 3)).ownsRow (w3.heap.size + 1) 3 1 (.slice (some ⟨w3.heap.size + 1, 0, none⟩) 0 0) 0 [] from by have h9 := World.ownsRow_lit (base := (w3.alloc (.cells #[] 3)).heap.size) (e := 3) (size := 1) (w3.alloc (.cells #[] 3)) #[] 0 (Nat.le_refl _) (by simp [maxLen]) rfl; simpa using h9); have HN2 := Lib.hid (Sl.newsB (Hw.out.below (hbA.trans ((((Below.refl w3.heap.size w3).alloc (Nat.le_refl _) (.cells #[] 3)).alloc (by simp) (.cells #[] 3)).mono hbA.size)))); clear ho3 hg3 hbA)
      | (at_builtin; refine wpList_append_own _ rfl (.tmp 19) (.tmp 20) 22 rfl (w3.heap.size + 1) 3 i0 (.int .i64 0) 1 8 Try.underlying22 hi hz0 hz1 hz2 rfl (by decide) _ 0 [] rfl HO2.out ⟨b1, off1, none⟩ n1 c1 (ints xs) rfl HLx.out HN2.out (ints_oneCell _ xs) (by unfold maxLen; omega) (by omega) (by simp) ?_; intro v5 w5 ho5 hg5 _; obtain ⟨a5, c5, hv5, _⟩ := own_form ho5; rw [Nat.zero_add] at ho5 hv5; subst hv5; have HO5 := Lib.hid (show w5.ownsRow (w3.heap.size + 1) 3 1 (.slice a5 n1 c5) n1 (ints xs) by simpa using ho5); have HbB := Lib.hid (show Below (w3.heap.size + 1) (w3.alloc (.cells #[] 3)) w5 from ((Below.refl _ _).alloc (by simp) (.cells #[] 3)).grown hg5 (by simp) (fun r e => (HO2.out.lt r e).1)); have HbC := Lib.hid (show Below w3.heap.size w3 w5 from ((Below.refl _ _).alloc (Nat.le_refl _) (.cells #[] 3)).trans (HbB.out.mono (by omega))); have HbD := Lib.hid (HbA.out.trans (HbC.out.mono HbA.out.size)); have B4 := HB.out.below HbD.out HB.out.lt; have r0 := B4.c0; have g0 := B4.f 0; obtain ⟨W7, hW7⟩ : ∃ W', w5.setCell ⟨w.heap.size, 0, none⟩ (.slice a3 n1 c3) = W' := ⟨_, rfl⟩; have J2 := B4.s0 (.slice a3 n1 c3); rw [hW7] at J2; have r1 := J2.c1; have g1 := J2.f 1; obtain ⟨W8, hW8⟩ : ∃ W', W7.setCell ⟨w.heap.size, 1, none⟩ (.int .i64 n) = W' := ⟨_, rfl⟩; have K2' := J2.s1 (.int .i64 n); rw [hW8] at K2'; have r2 := K2'.c2; have g2 := K2'.f 2; obtain ⟨W9, hW9⟩ : ∃ W', W8.setCell ⟨w.heap.size, 2, none⟩ (.slice (some ⟨w3.heap.size, 0, none⟩) 0 0) = W' := ⟨_, rfl⟩; have L2 := K2'.s2 (.slice (some ⟨w3.heap.size, 0, none⟩) 0 0); rw [hW9] at L2; have r3 := L2.c3; have g3 := L2.f 3; obtain ⟨Wa, hWa⟩ : ∃ W', W9.setCell ⟨w.heap.size, 3, none⟩ (.slice a5 n1 c5) = W' := ⟨_, rfl⟩; have M2 := L2.s3 (.slice a5 n1 c5); rw [hWa] at M2; have e0 := M2.c0; have e1 := M2.c1; have e2 := M2.c2; have e3 := M2.c3; have HF := Lib.hid (show BtOwn w.heap.size Wa (.agg #[.slice a3 n1 c3, .int .i64 n, .slice (some ⟨w3.heap.size, 0, none⟩) 0 0, .slice a5 n1 c5]) ⟨xs, n, [], xs⟩ ∧ Below w.heap.size w Wa from by (have hs := HsW.out; have hsA := HbA.out.size; have hb0 : Below w.heap.size w w5 := HbW.out.trans (HbD.out.mono HbW.out.size); obtain ⟨V, hV, _, ho, hb, _⟩ := bt_store (w0 := w) (B := w.heap.size + 1) B4 (Nat.lt_succ_self _) (Nat.le_refl _) hb0 (show BtOwn (w.heap.size + 1) w5 (.agg #[.slice a3 n1 c3, .int .i64 n, .slice (some ⟨w3.heap.size, 0, none⟩) 0 0, .slice a5 n1 c5]) ⟨xs, n, [], xs⟩ from ⟨a3, some ⟨w3.heap.size, 0, none⟩, a5, c3, 0, c5, n1, 0, n1, rfl, Joins.ownsRow_le (ownsRow_below' HO3.out HbC.out) (by omega), Joins.ownsRow_le (ownsRow_below' HL2.out (by simpa using HbB.out)) (by omega), Joins.ownsRow_le HO5.out (by omega), fun k hk => by (have i1 := (HO3.out.lt k hk).2; exact ⟨fun h => by (simp [Value.ownBlock] at h; omega), fun h => by (have i2 := (HO5.out.lt k h).1; omega)⟩), fun k hk h => by (have i2 := (HO5.out.lt k h).1; simp [Value.ownBlock] at hk; omega)⟩); rw [hW7, hW8, hW9, hWa] at hV; subst hV; exact ⟨ho.le (by omega), hb⟩)); clear ho5 hg5 B4 J2 K2' L2 M2))
    refine bodyPost_ret (v := .agg #[.slice a3 n1 c3, .int .i64 n, .slice (some ⟨w3.heap.size, 0, none⟩) 0 0, .slice a5 n1 c5]) (by simp [results, Try.f27, go_sem, e0, e1, e2, e3]) rfl ?_
    exact ⟨_, rfl, HF.out.1, HF.out.2⟩
  · have hnb : newB xs n = ⟨[], 0, [], []⟩ := if_neg hok
    rw [hnb]
    cases hv : H.hvB xs with
    | false =>
      rw [hv] at k1
      clear hB hbW hw h hok hnb hsW hv
      go_enter Try.func27, Try.ntmps27
      go_wp2_with fail
      refine (k1.out).mono ?_
      rintro ee w' ⟨rfl, rfl⟩
      have r0 := HB.out.c0
      have g0 := HB.out.f 0
      obtain ⟨W7, hW7⟩ : ∃ W', W.setCell ⟨w.heap.size, 0, none⟩ (.slice none 0 0) = W' := ⟨_, rfl⟩
      have J2 := HB.out.s0 (.slice none 0 0)
      rw [hW7] at J2
      have r1 := J2.c1
      have g1 := J2.f 1
      obtain ⟨W8, hW8⟩ : ∃ W', W7.setCell ⟨w.heap.size, 1, none⟩ (.int .i64 0) = W' := ⟨_, rfl⟩
      have K2' := J2.s1 (.int .i64 0)
      rw [hW8] at K2'
      have r2 := K2'.c2
      have g2 := K2'.f 2
      obtain ⟨W9, hW9⟩ : ∃ W', W8.setCell ⟨w.heap.size, 2, none⟩ (.slice none 0 0) = W' := ⟨_, rfl⟩
      have L2 := K2'.s2 (.slice none 0 0)
      rw [hW9] at L2
      have r3 := L2.c3
      have g3 := L2.f 3
      obtain ⟨Wa, hWa⟩ : ∃ W', W9.setCell ⟨w.heap.size, 3, none⟩ (.slice none 0 0) = W' := ⟨_, rfl⟩
      have M2 := L2.s3 (.slice none 0 0)
      rw [hWa] at M2
      have e0 := M2.c0
      have e1 := M2.c1
      have e2 := M2.c2
      have e3 := M2.c3
      have HF := Lib.hid (show BtOwn w.heap.size Wa (.agg #[.slice none 0 0, .int .i64 0, .slice none 0 0, .slice none 0 0]) ⟨[], 0, [], []⟩ ∧ Below w.heap.size w Wa from by
        refine ⟨zero_own _ _, ?_⟩
        rw [← hWa, ← hW9, ← hW8, ← hW7]
        exact (((HbW.out.setCell (Nat.le_refl _) _).setCell (Nat.le_refl _) _).setCell (Nat.le_refl _) _).setCell (Nat.le_refl _) _)
      clear J2 K2' L2 M2
      go_wp2_with fail
      refine bodyPost_ret (v := .agg #[.slice none 0 0, .int .i64 0, .slice none 0 0, .slice none 0 0]) (by simp [results, Try.f27, go_sem, e0, e1, e2, e3]) rfl ?_
      exact ⟨_, rfl, HF.out.1, HF.out.2⟩
    | true =>
      have hn : ¬ (1 ≤ n ∧ n ≤ 9) := fun h' => hok ⟨hv, h'⟩
      rw [hv] at k1
      have k2 := Lib.hid (l1In_no n 1 9 W (by omega))
      clear hB hbW hw h hok hnb hsW hv
      go_enter Try.func27, Try.ntmps27
      go_wp2_with fail
      refine (k1.out).mono ?_
      rintro ee w' ⟨rfl, rfl⟩
      go_wp2_with fail
      refine (k2.out).mono ?_
      rintro ee w' ⟨rfl, rfl⟩
      have r0 := HB.out.c0
      have g0 := HB.out.f 0
      obtain ⟨W7, hW7⟩ : ∃ W', W.setCell ⟨w.heap.size, 0, none⟩ (.slice none 0 0) = W' := ⟨_, rfl⟩
      have J2 := HB.out.s0 (.slice none 0 0)
      rw [hW7] at J2
      have r1 := J2.c1
      have g1 := J2.f 1
      obtain ⟨W8, hW8⟩ : ∃ W', W7.setCell ⟨w.heap.size, 1, none⟩ (.int .i64 0) = W' := ⟨_, rfl⟩
      have K2' := J2.s1 (.int .i64 0)
      rw [hW8] at K2'
      have r2 := K2'.c2
      have g2 := K2'.f 2
      obtain ⟨W9, hW9⟩ : ∃ W', W8.setCell ⟨w.heap.size, 2, none⟩ (.slice none 0 0) = W' := ⟨_, rfl⟩
      have L2 := K2'.s2 (.slice none 0 0)
      rw [hW9] at L2
      have r3 := L2.c3
      have g3 := L2.f 3
      obtain ⟨Wa, hWa⟩ : ∃ W', W9.setCell ⟨w.heap.size, 3, none⟩ (.slice none 0 0) = W' := ⟨_, rfl⟩
      have M2 := L2.s3 (.slice none 0 0)
      rw [hWa] at M2
      have e0 := M2.c0
      have e1 := M2.c1
      have e2 := M2.c2
      have e3 := M2.c3
      have HF := Lib.hid (show BtOwn w.heap.size Wa (.agg #[.slice none 0 0, .int .i64 0, .slice none 0 0, .slice none 0 0]) ⟨[], 0, [], []⟩ ∧ Below w.heap.size w Wa from by
        refine ⟨zero_own _ _, ?_⟩
        rw [← hWa, ← hW9, ← hW8, ← hW7]
        exact (((HbW.out.setCell (Nat.le_refl _) _).setCell (Nat.le_refl _) _).setCell (Nat.le_refl _) _).setCell (Nat.le_refl _) _)
      clear J2 K2' L2 M2
      go_wp2_with fail
      refine bodyPost_ret (v := .agg #[.slice none 0 0, .int .i64 0, .slice none 0 0, .slice none 0 0]) (by simp [results, Try.f27, go_sem, e0, e1, e2, e3]) rfl ?_
      exact ⟨_, rfl, HF.out.1, HF.out.2⟩

end Go.Proofs.Ytdcgcohfbcdnnaa
