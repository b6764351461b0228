/- Iterate of the program: each kind of growth is a function in a field; each iteration captures the one below it. -/
import Derived.Test.YtbhifmjpaageeaaIterM
import Derived.Test.YtbhifmjpaageeaaLeaf
import Derived.RangeFuncNested
namespace Go.Proofs.Ytbhifmjpaageeaa
set_option maxRecDepth 100000
open Go.RowKit

theorem run_store_func (P : Program) (w : World) (a : Addr) (f : Fn) (r c : Array Value) (m : Mode) : (store a (.func f r c) m).run P w = stored P w a (.func f r c) m := run_store P w a _ m rfl
attribute [local go_sem] run_store_func

theorem run_field_growth (v : Value) (w : World) : (Instr.field 45 (.agg #[v]) 0).run Try.prog w = .ok v w := by kernel_rfl
attribute [local go_sem] run_field_growth

/-- The growth of a level: the function in its field, and what it captured. -/
def GF (A : Nat) (W : World) : Nat → Value → Prop
  | 0, v => v = .func (.func 69) #[] #[]
  | l + 1, v => ∃ b u, v = .func (.func 70) #[] #[.pointer (some ⟨b, 0, none⟩)] ∧ A < b ∧ W.cell? ⟨b, 0, none⟩ = some u ∧ GF A W l u
theorem GF.below {A : Nat} {W W' : World} {B : Nat} (h : Below B W W') (hB : W.heap.size ≤ B) : ∀ {l : Nat} {v : Value}, GF A W l v → GF A W' l v
  | 0, _, hv => hv
  | _ + 1, _, ⟨b, u, h1, h0, h2, h3⟩ => ⟨b, u, h1, h0, (h.cell (p := ⟨b, 0, none⟩) (Nat.lt_of_lt_of_le (World.block_lt_of_cell? _ _ h2) hB)).trans h2, GF.below h hB h3⟩
theorem GF.set {A B : Nat} {W : World} (hB : B ≤ A) (x : Value) : ∀ {l : Nat} {v : Value}, GF A W l v → GF A (W.setCell ⟨B, 0, none⟩ x) l v
  | 0, _, hv => hv
  | _ + 1, _, ⟨b, u, h1, h0, h2, h3⟩ => ⟨b, u, h1, h0, (World.cell?_setCell_other _ _ _ _ (by intro e; have h := congrArg Addr.block e; dsimp only at h; omega)).trans h2, GF.set hB x h3⟩

theorem oneMore1_any (n : Nat) (w : World) (h2 : n ≤ 90) :
    Calls Try.prog 69 #[.int .i64 n] w fun e w' => e = .returned (.int .i64 (T.optI (T.iter 0 n))) ∧ w = w' := by
  by_cases h9 : n < 90
  · have hr : T.optI (T.iter 0 n) = (n : Int) + 1 := by simp only [T.iter]; rw [if_pos h9]; simp [T.optI]
    have hb : ¬ (90 : Int) ≤ n := by omega
    rw [hr]
    clear hr
    go_enter Try.func69, Try.ntmps69
    go_wp2
    go_ret
    exact ⟨rfl, rfl⟩
  · have hr : T.optI (T.iter 0 n) = -1 := by simp only [T.iter]; rw [if_neg h9]; rfl
    have hb : (90 : Int) ≤ n := by omega
    rw [hr]
    clear hr
    go_enter Try.func69, Try.ntmps69
    go_wp2
    go_ret
    exact ⟨rfl, rfl⟩

/-- What a growth of a level answers. -/
def GAns (l : Nat) (v : Value) (W : World) : Prop :=
  ∃ f c, v = .func (.func f) #[] c ∧ ∀ (n : Nat) (w : World), 1 ≤ n → n ≤ 90 → Below W.heap.size W w →
    Calls Try.prog f (#[.int .i64 n] ++ c) w fun e w' => e = .returned (.int .i64 (T.optI (T.iter l n))) ∧ Below w.heap.size w w'

set_option maxHeartbeats 4000000 in
theorem iterated1_any (l b f : Nat) (c : Array Value) (n : Nat) (W w : World) (h1 : 1 ≤ n) (h2 : n ≤ 90) (hW : Below W.heap.size W w) (hb : W.cell? ⟨b, 0, none⟩ = some (.func (.func f) #[] c))
    (hf : (f = 69 ∧ c = #[]) ∨ ∃ b', f = 70 ∧ c = #[.pointer (some ⟨b', 0, none⟩)])
    (ih : ∀ (n : Nat) (w : World), 1 ≤ n → n ≤ 90 → Below W.heap.size W w → Calls Try.prog f (#[.int .i64 n] ++ c) w fun e w' => e = .returned (.int .i64 (T.optI (T.iter l n))) ∧ Below w.heap.size w w') :
    Calls Try.prog 70 #[.int .i64 n, .pointer (some ⟨b, 0, none⟩)] w fun e w' => e = .returned (.int .i64 (T.optI (T.iter (l + 1) n))) ∧ Below w.heap.size w w' := by
  have IH := Lib.hid ih
  have HW := Lib.hid hW
  have HB := Lib.hid hb
  have hbl : b < W.heap.size := World.block_lt_of_cell? _ _ hb
  obtain ⟨R, hR⟩ : ∃ R, R = T.iter (l + 1) n := ⟨_, rfl⟩
  have HR := Lib.hid (show T.manyAt R (T.iter l) n (some n) by rw [hR]; exact T.manyAt.start)
  rw [← hR]
  clear ih hW hb hR
  go_enter Try.func70, Try.ntmps70
  go_wp2_with fail
  go_loopw [4, 5] (fun v4 v5 wr => ∃ (i : Nat) (x : Option Nat), v5 = .int .i64 i ∧ i ≤ n ∧ v4 = .int .i64 (T.optI x) ∧ (∀ m, x = some m → 1 ≤ m ∧ m ≤ 90) ∧ T.manyAt R (T.iter l) (n - i) x ∧ Below w.heap.size w wr) (fun _ v5 _ => n - (intOf v5).toNat)
  case atStart => exact ⟨0, some n, rfl, by omega, rfl, fun m hm => by cases hm; exact ⟨h1, h2⟩, HR.out, Below.refl _ _⟩
  case round =>
    obtain ⟨i, x, rfl, hi, rfl, hx, hm, hbr⟩ := hrel
    have HM := Lib.hid hm
    have HBr := Lib.hid hbr
    clear hm hbr
    have hcb : wr.cell? ⟨b, 0, none⟩ = some (.func (.func f) #[] c) := ((HW.out.trans (HBr.out.mono HW.out.size)).cell (p := ⟨b, 0, none⟩) hbl).trans HB.out
    cases x with
    | none =>
      have HN := Lib.hid HM.out.none
      have hg0 : ¬ ((0 : Int) < -1) := by omega
      by_cases hin : i < n
      · have hin2 : (i : Int) < n := by omega
        simp only [T.optI]
        go_wp2_with fail
        go_ret
        exact ⟨by rw [HN.out]; rfl, HBr.out⟩
      · have hin2 : ¬ (i : Int) < n := by omega
        simp only [T.optI]
        go_wp2_with fail
        go_ret
        exact ⟨by rw [HN.out]; rfl, HBr.out⟩
    | some x =>
      have hx1 := (hx x rfl).1
      have hx2 := (hx x rfl).2
      have hg0 : (0 : Int) < x := by omega
      simp only [T.optI]
      by_cases hin : i < n
      · have hin2 : (i : Int) < n := by omega
        have k1 := Lib.hid (fun w2 (hx : Below wr.heap.size wr w2) => IH.out x w2 hx1 hx2 ((HW.out.trans (HBr.out.mono HW.out.size)).trans (hx.mono (Nat.le_trans HW.out.size HBr.out.size))))
        have hnx : T.manyAt R (T.iter l) (n - (i + 1)) (T.iter l x) := by
          have h3 := HM.out
          rw [show n - i = (n - (i + 1)) + 1 by omega] at h3
          exact h3.next
        have HNX := Lib.hid hnx
        have HY := Lib.hid (fun m (hm : T.iter l x = some m) => T.iter_bnd l x m hx1 hx2 hm)
        obtain ⟨y, hy⟩ : ∃ y, y = T.iter l x := ⟨_, rfl⟩
        rw [← hy] at k1 HNX HY
        clear hnx hx hy
        rcases hf with ⟨rfl, rfl⟩ | ⟨b', rfl, rfl⟩
        · skip
          go_wp2_with fail
          refine (k1.out _ (Below.refl _ _)).mono ?_
          rintro ee w2 ⟨rfl, hb2⟩
          have Hb2 := Lib.hid (HBr.out.trans (hb2.mono HBr.out.size))
          clear hb2
          go_wp2_with fail
          go_roundw
          case rel => exact ⟨i + 1, y, by simp, by omega, rfl, fun m hm => ⟨by have := (HY.out m hm).1; omega, (HY.out m hm).2⟩, HNX.out, Hb2.out⟩
          case measure => simp [intOf]; omega
        · skip
          go_wp2_with fail
          refine (k1.out _ (Below.refl _ _)).mono ?_
          rintro ee w2 ⟨rfl, hb2⟩
          have Hb2 := Lib.hid (HBr.out.trans (hb2.mono HBr.out.size))
          clear hb2
          go_wp2_with fail
          go_roundw
          case rel => exact ⟨i + 1, y, by simp, by omega, rfl, fun m hm => ⟨by have := (HY.out m hm).1; omega, (HY.out m hm).2⟩, HNX.out, Hb2.out⟩
          case measure => simp [intOf]; omega
      · have hin2 : ¬ (i : Int) < n := by omega
        have hRd : R = some x := by
          have h3 := HM.out
          rw [show n - i = 0 by omega] at h3
          exact h3.done
        have HRD := Lib.hid hRd
        clear hRd
        go_wp2_with fail
        go_ret
        exact ⟨by rw [HRD.out]; rfl, HBr.out⟩

theorem GF.form {A : Nat} {W : World} {f : Nat} {c : Array Value} : ∀ {l : Nat}, GF A W l (.func (.func f) #[] c) →
    (f = 69 ∧ c = #[]) ∨ ∃ b', f = 70 ∧ c = #[.pointer (some ⟨b', 0, none⟩)]
  | 0, h => by simp only [GF, Value.func.injEq, Fn.func.injEq, true_and] at h; exact .inl h
  | _ + 1, ⟨b', _, h4, _⟩ => by
    simp only [Value.func.injEq, Fn.func.injEq, true_and] at h4
    exact .inr ⟨b', h4⟩
theorem GF.ans {A : Nat} {W : World} : ∀ {l : Nat} {v : Value}, GF A W l v → GAns l v W
  | 0, v, h => ⟨69, #[], h, fun n w _ h2 _ => (oneMore1_any n w h2).mono (by rintro e w' ⟨rfl, rfl⟩; exact ⟨rfl, Below.refl _ _⟩)⟩
  | l + 1, v, ⟨b, u, h1, _, h2, h3⟩ => by
    obtain ⟨f, c, rfl, ih⟩ := GF.ans h3
    have hf : (f = 69 ∧ c = #[]) ∨ ∃ b', f = 70 ∧ c = #[.pointer (some ⟨b', 0, none⟩)] := GF.form h3
    exact ⟨70, #[.pointer (some ⟨b, 0, none⟩)], h1, fun n w hn1 hn2 hW => iterated1_any l b f c n W w hn1 hn2 hW h2 hf ih⟩

theorem oneMore_any (w : World) :
    Calls Try.prog 58 #[] w fun e w' => e = .returned (.agg #[.func (.func 69) #[] #[]]) ∧ Below w.heap.size w w' := by
  have hb : Below w.heap.size w (w.alloc (.cells #[.func (.func 69) #[] #[]] 45)) := (Below.refl _ _).alloc (Nat.le_refl _) _
  have z3 := (Boxed.new w 45 (.func (.func 69) #[] #[])).cell
  go_enter Try.func58, Try.ntmps58
  go_wp2
  exact bodyPost_ret (v := .agg #[.func (.func 69) #[] #[]]) (by simp [results, Try.f58, go_sem, z3]) rfl ⟨rfl, hb⟩
theorem iterated_any (v : Value) (w : World) :
    Calls Try.prog 59 #[.agg #[v]] w fun e w' => e = .returned (.agg #[.func (.func 70) #[] #[.pointer (some ⟨w.heap.size, 0, none⟩)]]) ∧ Below w.heap.size w w' ∧ w'.cell? ⟨w.heap.size, 0, none⟩ = some v := by
  have z4 := ((Boxed.new w 45 v).alloc (.cells #[.func (.func 70) #[] #[.pointer (some ⟨w.heap.size, 0, none⟩)]] 45)).cell
  have hx := Boxed.new (w.alloc (.cells #[v] 45)) 45 (.func (.func 70) #[] #[.pointer (some ⟨w.heap.size, 0, none⟩)])
  rw [World.size_alloc] at hx
  have z3 := hx.cell
  have hb : Below w.heap.size w ((w.alloc (.cells #[v] 45)).alloc (.cells #[.func (.func 70) #[] #[.pointer (some ⟨w.heap.size, 0, none⟩)]] 45)) := ((Below.refl _ _).alloc (Nat.le_refl _) _).alloc (by simp) _
  clear hx
  go_enter Try.func59, Try.ntmps59
  go_wp2
  exact bodyPost_ret (v := .agg #[.func (.func 70) #[] #[.pointer (some ⟨w.heap.size, 0, none⟩)]]) (by simp [results, Try.f59, go_sem, z3]) rfl ⟨rfl, hb, z4⟩

/-- Between two rounds: the growth of so many levels lies in a cell. -/
def LvRel (w : World) (A B : Nat) (v6 : Value) (wr : World) : Prop :=
  ∃ (i : Nat) (u : Value), v6 = .int .i64 i ∧ i ≤ B ∧ GF A wr i u ∧ Boxed wr A 45 u ∧ Boxed wr w.heap.size 45 .nilFunc ∧ Below w.heap.size w wr

set_option maxHeartbeats 4000000 in
theorem growthOfLevel_any (L : Nat) (w : World) (hL : L ≤ 9) :
    Calls Try.prog 36 #[.int .i64 L] w fun e w' => ∃ A u, e = .returned (.agg #[u]) ∧ GF A w' L u ∧ Below w.heap.size w w' := by
  have k1 := Lib.hid (fun w => oneMore_any w)
  have k2 := Lib.hid (fun v w => iterated_any v w)
  have h0 := Boxed.new w 45 .nilFunc
  have H0 := Lib.hid h0
  clear h0
  go_enter Try.func36, Try.ntmps36
  go_wp2_with fail
  refine (k1.out _).mono ?_
  rintro ee w1 ⟨rfl, hb1⟩
  have h1 := Boxed.new w1 45 (.func (.func 69) #[] #[])
  have hs := hb1.size
  rw [World.size_alloc] at hs
  have h0 : Boxed w1 w.heap.size 45 .nilFunc := (hb1.block _ (by simp)).trans H0.out
  have hst : LvRel w w1.heap.size L (.int .i64 (0 : Nat)) (w1.alloc (.cells #[.func (.func 69) #[] #[]] 45)) :=
    ⟨0, _, rfl, Nat.zero_le _, rfl, h1, h0.alloc _, ((((Below.refl _ _).alloc (Nat.le_refl _) _).trans (hb1.mono (by simp))).alloc (by omega) _)⟩
  have Hst := Lib.hid hst
  have hA : w.heap.size < w1.heap.size := by omega
  clear h1 h0 hst hb1 hs
  go_wp2_with fail
  obtain ⟨A, hAe⟩ : ∃ A, A = w1.heap.size := ⟨_, rfl⟩
  rw [← hAe] at Hst hA ⊢
  clear hAe
  go_loopw [6] (fun v6 wr => LvRel w A L v6 wr) (fun v6 _ => L - (intOf v6).toNat)
  case atStart => exact Hst.out
  case round =>
    obtain ⟨i, u, rfl, hi, hgf, hb, hr, hbw⟩ := hrel
    have HG := Lib.hid hgf
    have HB := Lib.hid hb
    have HR := Lib.hid hr
    have HBw := Lib.hid hbw
    have z1 := hb.cell
    have z2 := hb.frozen
    have z3 := hr.cell
    have z4 := hr.frozen
    clear hgf hb hr hbw
    by_cases hin : i < L
    · have hin2 : (i : Int) < L := by omega
      go_wp2_with fail
      refine (k2.out _ _).mono ?_
      rintro ee w2 ⟨rfl, hb2, hc2⟩
      have h1 : Boxed w2 A 45 u := (hb2.block _ HB.out.lt).trans HB.out
      have h2 : Boxed w2 w.heap.size 45 .nilFunc := (hb2.block _ HR.out.lt).trans HR.out
      have hg2 : GF A w2 i u := HG.out.below hb2 (Nat.le_refl _)
      have y1 := h1.cell
      have y2 := h1.frozen
      have hAlt := HB.out.lt
      have hwl := HBw.out.size
      have hfin : LvRel w A L (.int .i64 ((i + 1 : Nat) : Int)) (w2.setCell ⟨A, 0, none⟩ (.func (.func 70) #[] #[.pointer (some ⟨wr.heap.size, 0, none⟩)])) := by
        refine ⟨i + 1, _, rfl, by omega, ⟨wr.heap.size, u, rfl, hAlt, ?_, hg2.set (Nat.le_refl _) _⟩, h1.set _, h2.other (by omega) _, (HBw.out.trans (hb2.mono hwl)).setCell (p := ⟨A, 0, none⟩) (by show w.heap.size ≤ A; omega) _⟩
        exact (World.cell?_setCell_other _ _ _ _ (by intro e; have h := congrArg Addr.block e; dsimp only at h; omega)).trans hc2
      have Hfin := Lib.hid hfin
      clear hb2 hc2 h1 h2 hg2 hfin z1 z2 z3 z4
      go_wp2_with fail
      go_roundw
      case rel => have h := Hfin.out; simpa using h
      case measure => simp [intOf]; omega
    · have hin2 : ¬ (i : Int) < L := by omega
      obtain rfl : i = L := by omega
      obtain ⟨f, c, rfl, _⟩ := HG.out.ans
      have y3 := (HR.out.set (.func (.func f) #[] c)).cell
      have hbf : Below w.heap.size w (wr.setCell ⟨w.heap.size, 0, none⟩ (.func (.func f) #[] c)) := HBw.out.setCell (p := ⟨w.heap.size, 0, none⟩) (by simp) _
      have Hbf := Lib.hid hbf
      clear hbf
      go_wp2_with fail
      refine bodyPost_ret (v := .agg #[.func (.func f) #[] c]) (by simp [results, Try.f36, go_sem, y3]) rfl ⟨A, _, rfl, HG.out.set (by omega) _, Hbf.out⟩

set_option maxHeartbeats 4000000 in
theorem isGrowing_any (n : Int) (w : World) :
    Calls Try.prog 35 #[.int .i64 n] w fun e w' => e = .returned (.bool (decide (1 ≤ n ∧ n ≤ 90))) ∧ w = w' := by
  by_cases h0 : 1 ≤ n
  · by_cases h1 : n ≤ 90
    · have hr : decide (1 ≤ n ∧ n ≤ 90) = true := by simp [h0, h1]
      rw [hr]
      clear hr
      go_enter Try.func35, Try.ntmps35
      go_wp2
      go_ret
      exact ⟨rfl, rfl⟩
    · have hr : decide (1 ≤ n ∧ n ≤ 90) = false := by simp [h1]
      have hd : decide (n ≤ 90) = false := by simp [h1]
      rw [hr]
      clear hr
      go_enter Try.func35, Try.ntmps35
      go_wp2
      go_ret
      exact ⟨rfl, rfl⟩
  · have hr : decide (1 ≤ n ∧ n ≤ 90) = false := by simp [h0]
    have hd : decide (1 ≤ n) = false := by simp [h0]
    rw [hr]
    clear hr
    go_enter Try.func35, Try.ntmps35
    go_wp2
    go_ret
    exact ⟨rfl, rfl⟩

set_option maxHeartbeats 4000000 in
theorem impl_Iterate (l n : Int) (w : World) (_hl0 : -9223372036854775808 ≤ l) (_hl1 : l ≤ 9223372036854775807) (_hn0 : -9223372036854775808 ≤ n) (_hn1 : n ≤ 9223372036854775807) :
    Calls Try.prog 16 #[.int .i64 l, .int .i64 n] w fun e w' => e = .returned (.int .i64 (T.iterRes l n)) ∧ Below w.heap.size w w' := by
  have kg := Lib.hid (isGrowing_any n w)
  by_cases hl : l < 0
  · rw [T.iterRes_bad (.inl (by omega))]
    clear kg
    go_enter Try.func16, Try.ntmps16
    go_wp2_with fail
    go_ret
    exact ⟨rfl, Below.refl _ _⟩
  · by_cases hl9 : 9 < l
    · rw [T.iterRes_bad (.inl (by omega))]
      clear kg
      go_enter Try.func16, Try.ntmps16
      go_wp2_with fail
      go_ret
      exact ⟨rfl, Below.refl _ _⟩
    · by_cases h2 : 1 ≤ n ∧ n ≤ 90
      · rw [decide_eq_true h2] at kg
        obtain ⟨L, rfl⟩ : ∃ L : Nat, l = L := ⟨l.toNat, by omega⟩
        obtain ⟨N, rfl⟩ : ∃ N : Nat, n = N := ⟨n.toNat, by omega⟩
        rw [T.iterRes_val (by omega) (by omega) (by omega)]
        have hn1 : 1 ≤ N := by omega
        have hn2 : N ≤ 90 := by omega
        have k1 := Lib.hid (growthOfLevel_any L w (by omega))
        obtain ⟨r, hr⟩ : ∃ r, r = T.optI (T.iter L N) := ⟨_, rfl⟩
        have Hr := Lib.hid hr
        rw [← hr]
        clear h2 hr
        go_enter Try.func16, Try.ntmps16
        go_wp2_with fail
        refine (kg.out).mono ?_
        rintro ee wx ⟨rfl, rfl⟩
        go_wp2_with fail
        refine (k1.out).mono ?_
        rintro ee w1 ⟨A, u, rfl, hg, hb⟩
        obtain ⟨f, c, rfl, ha⟩ := hg.ans
        have k2 := Lib.hid (ha N w1 hn1 hn2 (Below.refl _ _))
        have hfm := hg.form
        have Hb := Lib.hid hb
        rw [← Hr.out] at k2
        clear hg hb ha
        rcases hfm with ⟨rfl, rfl⟩ | ⟨b', rfl, rfl⟩
        · go_wp2_with fail
          refine (k2.out).mono ?_
          rintro ee w2 ⟨rfl, hb2⟩
          have Hb2 := Lib.hid (Hb.out.trans (hb2.mono Hb.out.size))
          clear hb2
          go_wp2_with fail
          go_ret
          exact ⟨rfl, Hb2.out⟩
        · go_wp2_with fail
          refine (k2.out).mono ?_
          rintro ee w2 ⟨rfl, hb2⟩
          have Hb2 := Lib.hid (Hb.out.trans (hb2.mono Hb.out.size))
          clear hb2
          go_wp2_with fail
          go_ret
          exact ⟨rfl, Hb2.out⟩
      · rw [T.iterRes_bad (.inr h2)]
        rw [decide_eq_false h2] at kg
        clear h2
        go_enter Try.func16, Try.ntmps16
        go_wp2_with fail
        refine (kg.out).mono ?_
        rintro ee wx ⟨rfl, rfl⟩
        go_wp2_with fail
        go_ret
        exact ⟨rfl, Below.refl _ _⟩
end Go.Proofs.Ytbhifmjpaageeaa
