/- StepsDown of the program. -/
import Derived.Test.YtdcaefgbpnjjaaaDownM
namespace Go.Proofs.Ytdcaefgbpnjjaaa
open Go.RowKit Go.Shelf

attribute [local go_sem] Oper.semAt_some

theorem repeated_any (v m : Int) (w : World) :
    Calls Try.prog 43 #[.int .i64 v, .int .i64 m] w fun e w' => e = .returned (.func (.func 61) #[] #[.pointer (some ⟨w.heap.size + 1, 0, none⟩), .pointer (some ⟨w.heap.size, 0, none⟩)]) ∧
      w' = (w.alloc (.cells #[.int .i64 v] 3)).alloc (.cells #[.int .i64 m] 3) := by
  go_enter Try.func43, Try.ntmps43
  go_wp2
  go_ret
  exact ⟨rfl, rfl⟩

theorem stepsFrom_any (a : Option Addr) (n c k : Nat) (ls : Array Value) (w : World) :
    Calls Try.prog 41 #[.slice a n c, .func (.func k) #[] ls] w fun e w' => e = .returned (.func (.func 59) #[] #[.pointer (some ⟨w.heap.size, 0, none⟩), .pointer (some ⟨w.heap.size + 1, 0, none⟩)]) ∧
      w' = (w.alloc (.cells #[.slice a n c] 22)).alloc (.cells #[.func (.func k) #[] ls] 46) := by
  go_enter Try.func41, Try.ntmps41
  go_wp2
  go_ret
  exact ⟨rfl, rfl⟩

theorem two_set {W : World} {s : Nat} {x y : Value} (h4 : W.cell? ⟨s, 0, none⟩ = some x) (h5 : W.cell? ⟨s + 1, 0, none⟩ = some y) (u v : Value) :
    ((W.setCell ⟨s, 0, none⟩ u).setCell ⟨s + 1, 0, none⟩ v).cell? ⟨s, 0, none⟩ = some u ∧ ((W.setCell ⟨s, 0, none⟩ u).setCell ⟨s + 1, 0, none⟩ v).cell? ⟨s + 1, 0, none⟩ = some v := by
  have k4 : (W.setCell ⟨s, 0, none⟩ u).cell? ⟨s, 0, none⟩ = some u := World.cell?_setCell_same _ _ _ h4
  have k5 : (W.setCell ⟨s, 0, none⟩ u).cell? ⟨s + 1, 0, none⟩ = some y :=
    (World.cell?_of_block ((grownBy_setCell' _ _ _).block _ (World.block_lt_of_cell? _ _ h5) (fun e => by have h : s + 1 = s := Option.some.inj e; omega))).trans h5
  exact ⟨(World.cell?_of_block ((grownBy_setCell' _ _ _).block _ (World.block_lt_of_cell? _ _ k4) (fun e => by have h : s = s + 1 := Option.some.inj e; omega))).trans k4, World.cell?_setCell_same _ _ _ k5⟩
theorem below_two {w W : World} (h : Below w.heap.size w W) (u v : Value) : Below w.heap.size w ((W.setCell ⟨w.heap.size, 0, none⟩ u).setCell ⟨w.heap.size + 1, 0, none⟩ v) :=
  (h.setCell (p := ⟨w.heap.size, 0, none⟩) (Nat.le_refl _) _).setCell (p := ⟨w.heap.size + 1, 0, none⟩) (Nat.le_succ _) _

/-- Between two rounds of StepsDown's loop. -/
def DnI (v : Int) (t : T) (w W0 : World) (s3 m : Nat) (W : World) : Prop :=
  m ≤ 3000 ∧ T.VU v t m ∧ T.NZ v t m ∧ Boxed W w.heap.size 3 (.int .i64 0) ∧ Boxed W (w.heap.size + 1) 3 (.int .i64 0) ∧ Boxed W s3 3 (.int .i64 m) ∧ Boxed W (s3 + 1) 3 (.int .i64 (T.ones v t m)) ∧ Below w.heap.size w W ∧
    ∃ bb off c, Boxed W (s3 + 1 + 1) 22 (.slice (some ⟨bb, off, none⟩) (T.it v t m).enc.length c) ∧ (T.it v t m).enc.length ≤ c ∧ c ≤ maxLen ∧ At W bb off (T.it v t m).enc ∧ (bb < w.heap.size ∨ W0.heap.size + 4 ≤ bb)
def DnX (v : Int) (t : T) (w : World) (c : Code) (m : Nat) (W : World) : Prop :=
  c = .ret ∧ 1 ≤ m ∧ m ≤ 3000 ∧ T.NZ v t m ∧ T.vldB (T.it v t m).enc = false ∧ Boxed W w.heap.size 3 (.int .i64 (-1)) ∧ Boxed W (w.heap.size + 1) 3 (.int .i64 (-1)) ∧ Below w.heap.size w W

theorem box_at {W : World} {s : Nat} (t : TypeId) (v : Value) (hs : W.heap.size = s) : Boxed (W.alloc (.cells #[v] t)) s t v := by
  subst hs; exact Boxed.new W t v
theorem Boxed.below {W W' : World} {B n₀ : Nat} {t : TypeId} {v : Value} (h : Boxed W B t v) (hb : Below n₀ W W') (hB : B < n₀) : Boxed W' B t v := (hb.block B hB).trans h

theorem at_set {W : World} {b o s : Nat} {xs : List Int} (h : At W b o xs) (hne : b ≠ s) (u : Value) : At (W.setCell ⟨s, 0, none⟩ u) b o xs := fun j hj =>
  (World.cell?_of_block ((grownBy_setCell' W s u).block b (World.block_lt_of_cell? W _ (h j hj)) (fun e => hne (Option.some.inj e)))).trans (h j hj)

/-- The two results lie in cells. -/
theorem down_out {W : World} {n : Nat} {tmps : Array Value} {c4 c5 : Nat} {x y : Int} (ht4 : tmps[4]?.getD undef = .pointer (some ⟨c4, 0, none⟩)) (ht5 : tmps[5]?.getD undef = .pointer (some ⟨c5, 0, none⟩))
    (h4 : W.cell? ⟨c4, 0, none⟩ = some (.int .i64 x)) (h5 : W.cell? ⟨c5, 0, none⟩ = some (.int .i64 y)) {R : Ending → World → Prop} (hR : R (.returned (.tuple #[.int .i64 x, .int .i64 y])) W) :
    LeavesInM Fence.wide n Try.prog Try.f23 tmps R [] .returning W := by
  refine ⟨_, ?_, hR⟩
  simp [results, Try.f23, go_sem, ht4, ht5, h4, h5]

set_option maxRecDepth 100000 in
set_option maxHeartbeats 4000000 in
theorem impl_StepsDown (ao : Option Addr) (len cap : Nat) (xs : List Int) (n : Int) (w : World) (h : Sl w ao len cap xs) (_hn0 : -9223372036854775808 ≤ n) (_hn1 : n ≤ 9223372036854775807) :
    Calls Try.prog 23 #[.slice ao len cap, .int .i64 n] w fun e w' => e = .returned (.tuple #[.int .i64 (T.downS xs n), .int .i64 (T.downO xs n)]) ∧ Below w.heap.size w w' := by
  have hw2 : Below w.heap.size w ((w.alloc (.cells #[.int .i64 0] 3)).alloc (.cells #[.int .i64 0] 3)) := ((Below.refl _ _).alloc (Nat.le_refl _) _).alloc (by simp) _
  have ks := Lib.hid (isStepNumber_any n)
  obtain ⟨w2, hww⟩ : ∃ w2, w2 = (w.alloc (.cells #[.int .i64 0] 3)).alloc (.cells #[.int .i64 0] 3) := ⟨_, rfl⟩
  have hs2 : w2.heap.size = w.heap.size + 2 := by rw [hww]; simp
  have hx4 : Boxed w2 w.heap.size 3 (.int .i64 0) := by rw [hww]; exact (Boxed.new w _ _).alloc _
  have hx5 : Boxed w2 (w.heap.size + 1) 3 (.int .i64 0) := by
    have h := Boxed.new (w.alloc (.cells #[.int .i64 0] 3)) 3 (.int .i64 0)
    rw [World.size_alloc] at h
    rw [hww]; exact h
  rw [← hww] at hw2
  have HWW := Lib.hid hww.symm
  clear hww
  refine (callsIn_wide (n := 20)).1 ?_
  rcases vld_tf xs with h1 | h1
  · have k1 := Lib.hid (impl_valid ao len cap xs w2 (h.below hw2) h1)
    by_cases hin : 0 ≤ n ∧ n ≤ 99
    · obtain ⟨b, off, t, rfl, rfl, hs, hos, hat, hn, hl, hp, hc, hm⟩ := h.valid h1
      have hkt : decide (0 ≤ n ∧ n ≤ 99) = true := decide_eq_true hin
      rw [hkt] at ks
      have hbw : b < w.heap.size := hat.lt (T.enc_ne t)
      have HAT := Lib.hid hat
      have HN := Lib.hid hn
      have H1 := Lib.hid h1
      clear h h1 hos hs hat hn hkt
      refine callsIn_of_wp_marks Try.func23 rfl trivial ?_ rfl
      simp only [Try.ntmps23, List.size_toArray, List.length_cons, List.length_nil, Nat.reduceAdd, Nat.reduceSub, Array.replicate_succ, Array.replicate_zero, List.push_toArray, List.append_toArray, List.nil_append, List.cons_append]
      gi_wp2
      rw [HWW.out]
      refine ⟨trivial, (callsIn_wide.2 k1.out).mono ?_⟩
      rintro ee w3 ⟨rfl, hb3⟩
      gi_wp2
      refine ⟨trivial, (callsIn_wide.2 (ks.out _)).mono ?_⟩
      rintro ee wx ⟨rfl, rfl⟩
      gi_wp2
      refine ⟨trivial, (callsIn_wide.2 (repeated_any n 3000 _)).mono ?_⟩
      rintro ee wr ⟨rfl, rfl⟩
      gi_wp2
      refine ⟨trivial, (callsIn_wide.2 (stepsFrom_any _ _ _ _ _ _)).mono ?_⟩
      rintro ee ws ⟨rfl, rfl⟩
      gi_wp2
      obtain ⟨s3, hs3⟩ : ∃ s3, s3 = w3.heap.size := ⟨_, rfl⟩
      rw [← hs3]
      obtain ⟨W0, hW0⟩ : ∃ W0, W0 = (((((((w3.alloc (.cells #[.int .i64 0] 3)).alloc (.cells #[.int .i64 0] 3)).alloc (.cells #[.slice (some ⟨b, off, none⟩) len cap] 22)).alloc (.cells #[.int .i64 n] 3)).alloc (.cells #[.int .i64 3000] 3)).alloc (.cells #[.slice (some ⟨b, off, none⟩) len cap] 22)).alloc (.cells #[.func (.func 61) #[] #[.pointer (some ⟨s3 + 1 + 1 + 1 + 1, 0, none⟩), .pointer (some ⟨s3 + 1 + 1 + 1, 0, none⟩)]] 46)) := ⟨_, rfl⟩
      rw [← hW0]
      have hsz : W0.heap.size = s3 + 7 := by rw [hW0, hs3]; simp
      have hb30 : Below w3.heap.size w3 W0 := by
        rw [hW0]
        exact (((((((Below.refl _ _).alloc (Nat.le_refl _) _).alloc (by simp) _).alloc (by simp; omega) _).alloc (by simp; omega) _).alloc (by simp; omega) _).alloc (by simp; omega) _).alloc (by simp; omega) _
      have e6 : Boxed W0 s3 3 (.int .i64 0) := by rw [hW0]; exact ((((((box_at _ _ hs3.symm).alloc _).alloc _).alloc _).alloc _).alloc _).alloc _
      have e7 : Boxed W0 (s3 + 1) 3 (.int .i64 0) := by rw [hW0]; exact (((((box_at _ _ (by rw [hs3]; simp)).alloc _).alloc _).alloc _).alloc _).alloc _
      have e8 : Boxed W0 (s3 + 1 + 1) 22 (.slice (some ⟨b, off, none⟩) len cap) := by rw [hW0]; exact ((((box_at _ _ (by rw [hs3]; simp)).alloc _).alloc _).alloc _).alloc _
      have eN : Boxed W0 (s3 + 1 + 1 + 1) 3 (.int .i64 n) := by rw [hW0]; exact (((box_at _ _ (by rw [hs3]; simp)).alloc _).alloc _).alloc _
      have eM : Boxed W0 (s3 + 1 + 1 + 1 + 1) 3 (.int .i64 3000) := by rw [hW0]; exact ((box_at _ _ (by rw [hs3]; simp)).alloc _).alloc _
      have eO : Boxed W0 (s3 + 1 + 1 + 1 + 1 + 1) 22 (.slice (some ⟨b, off, none⟩) len cap) := by rw [hW0]; exact (box_at _ _ (by rw [hs3]; simp)).alloc _
      have eF : Boxed W0 (s3 + 1 + 1 + 1 + 1 + 1 + 1) 46 (.func (.func 61) #[] #[.pointer (some ⟨s3 + 1 + 1 + 1 + 1, 0, none⟩), .pointer (some ⟨s3 + 1 + 1 + 1, 0, none⟩)]) := by rw [hW0]; exact box_at _ _ (by rw [hs3]; simp)
      have hs23 : w2.heap.size ≤ s3 := by rw [hs3]; exact hb3.size
      have hb20 : Below w2.heap.size w2 W0 := hb3.trans (hb30.mono hb3.size)
      have e4 : Boxed W0 w.heap.size 3 (.int .i64 0) := Boxed.below hx4 hb20 (by omega)
      have e5 : Boxed W0 (w.heap.size + 1) 3 (.int .i64 0) := Boxed.below hx5 hb20 (by omega)
      have hbw0 : Below w.heap.size w W0 := hw2.trans (hb20.mono hw2.size)
      have hat0 : At W0 b off t.enc := HAT.out.below hbw0 hbw
      clear hW0 hb30 hb20 hb3 hs3
      have hvt := H1.out
      have hseq := stepsFrom1_seq 19 n hin.1 hin.2 3000 w.heap.size (s3 + 3) (W0.heap.size + 4) (s3 + 1 + 1 + 1 + 1 + 1) (s3 + 1 + 1 + 1 + 1 + 1 + 1) (s3 + 1 + 1 + 1 + 1) (s3 + 1 + 1 + 1) b off len cap t W0 (by omega) (Nat.le_refl _) (by omega) (Nat.le_refl _)
        ⟨by omega, .inr (by omega)⟩ ⟨by omega, .inr (by omega)⟩ ⟨by omega, .inr (by omega)⟩ ⟨by omega, .inr (by omega)⟩ (.inl hbw) eO.cell eF.cell eM.cell eN.cell HN.out hc hm hat0 hvt
      have hvu : T.VU n t 0 := fun j hj => by
        obtain rfl : j = 0 := by omega
        exact hvt
      have hnz : T.NZ n t 0 := fun j hj => by omega
      have hlen0 : (T.it n t 0).enc.length = len := HN.out.symm
      have h00 : DnI n t w W0 s3 0 W0 := ⟨Nat.zero_le _, hvu, hnz, e4, e5, e6, e7, hbw0, b, off, cap, by rw [hlen0]; exact e8, by rw [hlen0]; exact hc, hm, hat0, .inl hbw⟩
      have Hseq := Lib.hid hseq
      clear hseq eO eF eM eN e6 e7 e8 e4 e5 hat0 hvu hnz hlen0
      refine wpIn_rangeX rfl (by omega) (gf := 59) (lb := #[.pointer (some ⟨s3 + 1 + 1 + 1 + 1 + 1, 0, none⟩), .pointer (some ⟨s3 + 1 + 1 + 1 + 1 + 1 + 1, 0, none⟩)]) rfl trivial (enters_of Try.func59 (by kernel_rfl) rfl)
        Hseq.out (by omega) (Below.refl _ _) (fun _ => rfl) (fun i x W l o o' hg _ ho hc => ⟨hg.1, hg.2.1, hg.2.2.1, hg.2.2.2.1, hg.2.2.2.2.1, ownsRow_putObj hg.2.2.2.2.2 o' ho hc⟩) (DnI n t w W0 s3) (DnX n t w) ?hI ?hIx h00
        (fun x => { tmps := #[.slice (some ⟨b, off, none⟩) len cap, .int .i64 n, undef, undef, .pointer (some ⟨w.heap.size, 0, none⟩), .pointer (some ⟨w.heap.size + 1, 0, none⟩), .pointer (some ⟨s3, 0, none⟩), .pointer (some ⟨s3 + 1, 0, none⟩), .pointer (some ⟨s3 + 1 + 1, 0, none⟩), .slice x.1 x.2.1 x.2.2.1, .bool x.2.2.2, .slice (some ⟨b, off, none⟩) len cap, .bool true, .bool false, .bool false, .int .i64 n, .bool true, .bool false, .bool false, .slice (some ⟨b, off, none⟩) len cap, .slice (some ⟨b, off, none⟩) len cap, .int .i64 n, .func (.func 61) #[] #[.pointer (some ⟨s3 + 1 + 1 + 1 + 1, 0, none⟩), .pointer (some ⟨s3 + 1 + 1 + 1, 0, none⟩)], .func (.func 59) #[] #[.pointer (some ⟨s3 + 1 + 1 + 1 + 1 + 1, 0, none⟩), .pointer (some ⟨s3 + 1 + 1 + 1 + 1 + 1 + 1, 0, none⟩)], .slice x.1 x.2.1 x.2.2.1, .bool x.2.2.2, undef, undef, undef, undef, undef, undef, undef, undef, undef, undef, undef, undef, undef, undef, undef], defers := [] })
        ?assign ?body ?done ?stop
      case hI =>
        rintro m A C row ⟨hm', hvu, hnz, b4, b5, b6, b7, hb, bb, off', c', b8, hle, hcm', hata, hbb⟩ hg hr
        have hup : ∀ r, row = some r → W0.heap.size ≤ r := fun r e => (hr r e).1
        refine ⟨hm', hvu, hnz, b4.kept hg (fun e => by have := hup _ e.symm; omega), b5.kept hg (fun e => by have := hup _ e.symm; omega), b6.kept hg (fun e => by have := hup _ e.symm; omega), b7.kept hg (fun e => by have := hup _ e.symm; omega),
          hb.grown hg hb.size (fun k e => by have := hup k e; omega), bb, off', c', b8.kept hg (fun e => by have := hup _ e.symm; omega), hle, hcm', fun j hj => hg.cell (hata j hj) (fun e => ?_), hbb⟩
        obtain ⟨k1, k2⟩ := hr bb e.symm
        rcases hbb with h | h
        · omega
        · rcases k2 with k2 | ⟨o, ho, hc⟩
          · omega
          · obtain ⟨o', ho', hc'⟩ := cells_of_cell (hata j hj)
            rw [ho] at ho'
            cases ho'
            rw [hc] at hc'
            cases hc'
      case hIx =>
        rintro c m A C row ⟨hc', h2, h3, h4, h5, b4, b5, hb⟩ hg hr
        have hup : ∀ r, row = some r → W0.heap.size ≤ r := fun r e => (hr r e).1
        exact ⟨hc', h2, h3, h4, h5, b4.kept hg (fun e => by have := hup _ e.symm; omega), b5.kept hg (fun e => by have := hup _ e.symm; omega), hb.grown hg hb.size (fun k e => by have := hup k e; omega)⟩
      case assign =>
        rintro l ⟨xa, xn, xc, xo⟩ W K hK
        dsimp only [encsH] at hK ⊢
        gi_wp2
        exact hK
      case body =>
        rintro l m ⟨xa, xn, xc, xo⟩ Wr hl' ⟨hm', hvu, hnz, b4, b5, b6, b7, hb, bb, off', c', b8, hle, hcm', hata, hbb⟩ ⟨hm2, _, hnz0, hxn, hxo, hown⟩
        dsimp only at hxn hxo hown ⊢
        have z4 := b4.cell
        have z5 := b5.cell
        have z6 := b6.cell
        have z7 := b7.cell
        have z8 := b8.cell
        have f4 := b4.frozen
        have f5 := b5.frozen
        have f6 := b6.frozen
        have f7 := b7.frozen
        have f8 := b8.frozen
        have HB := Lib.hid hb
        have Hown := Lib.hid hown
        have Hxn := Lib.hid hxn
        have HVU := Lib.hid hvu
        have HNZ := Lib.hid (hnz.snoc hnz0)
        have HBB := Lib.hid hbb
        have HATA := Lib.hid hata
        have B4 := Lib.hid b4
        have B5 := Lib.hid b5
        have B6 := Lib.hid b6
        have B7 := Lib.hid b7
        have B8 := Lib.hid b8
        clear hb hown hxn hvu hnz hnz0 hbb hata b4 b5 b6 b7 b8
        cases hxo2 : xo with
        | false =>
          have HXO := Lib.hid (hxo.symm.trans hxo2)
          clear hxo hxo2
          gi_wp2
          refine ⟨((KO.refl _ _ _).setCell _ _ ⟨Nat.le_refl _, by omega⟩).setCell _ _ ⟨by omega, by omega⟩, rfl, by omega, by omega, HNZ.out, HXO.out, (B4.out.set _).other (by omega) _, (B5.out.other (by omega) _).set _, below_two HB.out _ _⟩
        | true =>
          have hvn : T.vldB (T.it n t (m + 1)).enc = true := hxo.symm.trans hxo2
          have hfe : T.fit (T.it n t (m + 1)) = (T.it n t (m + 1)).enc := by rw [T.fit, if_pos hvn]
          have hown := Hown.out
          have hxn := Hxn.out
          rw [hfe] at hown hxn
          subst hxn
          obtain ⟨g2, rfl, hg2, hatn, hcn, hcmn⟩ := own_rowT hown
          have HXO := Lib.hid hvn
          have hn60 : (T.it n t m).enc.length ≤ 60 := (T.vldB_true.1 (HVU.out m (Nat.le_refl _))).1
          obtain ⟨on, hon⟩ : ∃ on, on = T.ones n t m := ⟨_, rfl⟩
          have hob : on ≤ 3000 := by rw [hon]; have := T.ones_le n t m; omega
          rw [← hon] at z7 B7
          have Hon := Lib.hid hon
          have hbs3 : bb ≠ s3 := by have := HBB.out; omega
          have at1 : At (Wr.setCell ⟨s3, 0, none⟩ (.int .i64 ((m : Int) + 1))) bb off' (T.it n t m).enc := at_set HATA.out hbs3 _
          have kk := Lib.hid (kindOf_any bb off' _ c' (T.it n t m) _ rfl (by omega) hle hcm' at1)
          have HAtn := Lib.hid hatn
          have q7 := (B7.out.other (show s3 + 1 ≠ s3 by omega) (.int .i64 ((m : Int) + 1))).cell
          have q8 := (B8.out.other (show s3 + 1 + 1 ≠ s3 by omega) (.int .i64 ((m : Int) + 1))).cell
          have hg2l : g2 < Wr.heap.size := hatn.lt (T.enc_ne _)
          have hl6 : s3 < Wr.heap.size := B6.out.lt
          have hl7 : s3 + 1 < Wr.heap.size := B7.out.lt
          have hl8 : s3 + 1 + 1 < Wr.heap.size := B8.out.lt
          have hl4 : w.heap.size < Wr.heap.size := B4.out.lt
          have hl5 : w.heap.size + 1 < Wr.heap.size := B5.out.lt
          clear hxo hxo2 hvn hfe hown hon at1 hatn
          gi_wp2
          refine ⟨trivial, (CallsIn.inRound l (callsIn_wide.2 kk.out)).mono ?_⟩
          rintro ee w5 ⟨rfl, hb5⟩
          have hsz1 : (Wr.setCell ⟨s3, 0, none⟩ (.int .i64 ((m : Int) + 1))).heap.size = Wr.heap.size := by simp [World.setCell]
          have x4 := Boxed.below (B4.out.other (show w.heap.size ≠ s3 by omega) (.int .i64 ((m : Int) + 1))) hb5 (by rw [hsz1]; omega)
          have x5 := Boxed.below (B5.out.other (show w.heap.size + 1 ≠ s3 by omega) (.int .i64 ((m : Int) + 1))) hb5 (by rw [hsz1]; omega)
          have x6 := Boxed.below (B6.out.set (.int .i64 ((m : Int) + 1))) hb5 (by rw [hsz1]; omega)
          have x7 := Boxed.below (B7.out.other (show s3 + 1 ≠ s3 by omega) (.int .i64 ((m : Int) + 1))) hb5 (by rw [hsz1]; omega)
          have x8 := Boxed.below (B8.out.other (show s3 + 1 + 1 ≠ s3 by omega) (.int .i64 ((m : Int) + 1))) hb5 (by rw [hsz1]; omega)
          have v7 := x7.cell
          have v8 := x8.cell
          have h7f := x7.frozen
          have h8f := x8.frozen
          have HKO := Lib.hid (((KO.refl w.heap.size (s3 + 3) Wr).setCell s3 (.int .i64 ((m : Int) + 1)) ⟨by omega, by omega⟩).trans (KO.of_below hb5))
          have HBW := Lib.hid ((HB.out.setCell (p := ⟨s3, 0, none⟩) (by show w.heap.size ≤ s3; omega) (.int .i64 ((m : Int) + 1))).trans (hb5.mono (by rw [hsz1]; omega)))
          have HAN := Lib.hid ((at_set HAtn.out (show g2 ≠ s3 by omega) (.int .i64 ((m : Int) + 1))).below hb5 (by rw [hsz1]; omega))
          have X4 := Lib.hid x4
          have X5 := Lib.hid x5
          have X6 := Lib.hid x6
          have X7 := Lib.hid x7
          have X8 := Lib.hid x8
          clear x4 x5 x6 x7 x8 hb5
          by_cases hkd : (T.it n t m).kind = 1
          · have hkb : ((T.it n t m).kind == 1) = true := by rw [hkd]; rfl
            have HKD := Lib.hid hkd
            clear hkd
            gi_wp2
            have hon1 : ((T.ones n t (m + 1) : Nat) : Int) = (on : Int) + 1 := by rw [T.ones, if_pos HKD.out, ← Hon.out]; simp
            have hm1 : (((m + 1 : Nat)) : Int) = (m : Int) + 1 := by omega
            refine ⟨(HKO.out.setCell _ _ ⟨by omega, by omega⟩).setCell _ _ ⟨by omega, by omega⟩, by omega, HVU.out.snoc HXO.out, HNZ.out, ?_, ?_, ?_, ?_, ?_, g2, 0, xc, ?_, hcn, hcmn, ?_, .inr (by omega)⟩
            · exact (X4.out.other (by omega) _).other (by omega) _
            · exact (X5.out.other (by omega) _).other (by omega) _
            · rw [hm1]; exact (X6.out.other (by omega) _).other (by omega) _
            · rw [hon1]; exact (X7.out.set _).other (by omega) _
            · exact (HBW.out.setCell (p := ⟨s3 + 1, 0, none⟩) (by show w.heap.size ≤ s3 + 1; omega) _).setCell (p := ⟨s3 + 1 + 1, 0, none⟩) (by show w.heap.size ≤ s3 + 1 + 1; omega) _
            · exact (X8.out.other (by omega) _).set _
            · exact fun j hj => at_set (at_set HAN.out (by omega) _) (by omega) _ j hj
          · have hkb : ((T.it n t m).kind == 1) = false := by simpa using hkd
            have HKD := Lib.hid hkd
            clear hkd
            gi_wp2
            have hon1 : ((T.ones n t (m + 1) : Nat) : Int) = (on : Int) := by rw [T.ones, if_neg HKD.out, ← Hon.out]; simp
            have hm1 : (((m + 1 : Nat)) : Int) = (m : Int) + 1 := by omega
            refine ⟨HKO.out.setCell _ _ ⟨by omega, by omega⟩, by omega, HVU.out.snoc HXO.out, HNZ.out, ?_, ?_, ?_, ?_, ?_, g2, 0, xc, ?_, hcn, hcmn, ?_, .inr (by omega)⟩
            · exact X4.out.other (by omega) _
            · exact X5.out.other (by omega) _
            · rw [hm1]; exact X6.out.other (by omega) _
            · rw [hon1]; exact X7.out.other (by omega) _
            · exact HBW.out.setCell (p := ⟨s3 + 1 + 1, 0, none⟩) (by show w.heap.size ≤ s3 + 1 + 1; omega) _
            · exact X8.out.set _
            · exact fun j hj => at_set HAN.out (by omega) _ j hj
      case done =>
        rintro D m Wd hD ⟨hm3, _, hend⟩ ⟨hm', hvu, hnz, b4, b5, b6, b7, hb, bb, off', c', b8, hle, hcm', hata, hbb⟩ hK
        have z4 := b4.cell
        have z5 := b5.cell
        have z6 := b6.cell
        have z7 := b7.cell
        have z8 := b8.cell
        have f4 := b4.frozen
        have f5 := b5.frozen
        have hvm := hvu m (Nat.le_refl _)
        obtain ⟨on, hon⟩ : ∃ on, on = T.ones n t m := ⟨_, rfl⟩
        have hob : on ≤ 3000 := by rw [hon]; have := T.ones_le n t m; omega
        rw [← hon] at z7
        have Hon := Lib.hid hon
        have ki := Lib.hid (isZero_any bb off' (T.it n t m).enc.length c' ((T.it n t m).cnt : Int) Wd (by rw [T.enc_len]; omega) hata.head)
        have HK := Lib.hid hK
        have HB := Lib.hid hb
        have HVU := Lib.hid hvu
        have HNZ := Lib.hid hnz
        have hl4 : w.heap.size ≠ D := by have := b4.lt; omega
        have hl5 : w.heap.size + 1 ≠ D := by have := b5.lt; omega
        have hDl : D < Wd.heap.size := (Array.getElem?_eq_some_iff.1 hK).1
        clear hon hK hb hata b6 b7 b8
        by_cases hz : T.it n t m = .z
        · have hzb : (((T.it n t m).cnt : Int) == 0) = true := by rw [hz]; rfl
          obtain ⟨e1, e2⟩ := T.downP_some hvt hin (T.down_end HVU.out HNZ.out hz hm3)
          have E1 := Lib.hid e1
          have E2 := Lib.hid e2
          clear hz hvu hnz hend e1 e2
          gi_wp2
          refine ⟨trivial, (callsIn_wide.2 ki.out).mono ?_⟩
          rintro ee wx ⟨rfl, rfl⟩
          gi_wp2
          gi_region
          gi_wp2
          obtain ⟨y4, y5⟩ := two_set z4 z5 (.int .i64 m) (.int .i64 on)
          have hK2 : ((Wd.setCell ⟨w.heap.size, 0, none⟩ (.int .i64 m)).setCell ⟨w.heap.size + 1, 0, none⟩ (.int .i64 on)).drew.heap[D]? = some (.deferred (some [])) :=
            ((grownBy_setCell' _ _ _).block D (by rw [show (Wd.setCell ⟨w.heap.size, 0, none⟩ (.int .i64 m)).heap.size = Wd.heap.size by simp [World.setCell]]; exact hDl) (fun e => hl5 (Option.some.inj e).symm)).trans (((grownBy_setCell' _ _ _).block D hDl (fun e => hl4 (Option.some.inj e).symm)).trans HK.out)
          refine ⟨by simp, .inl ⟨_, _, rfl, run_takeDeferred hK2, ?_⟩⟩
          have hbd := (below_two HB.out (.int .i64 m) (.int .i64 on)).drew
          have hfin := hbd.grown (grownBy_putObj' _ D (.deferred none)) hbd.size (fun k e => by cases e; omega)
          refine down_out rfl rfl (x := (m : Int)) (y := (on : Int)) ?_ ?_ ⟨by rw [E1.out, E2.out, Hon.out], hfin⟩
          · exact (World.cell?_of_block (World.putObj_heap_other hl4)).trans y4
          · exact (World.cell?_of_block (World.putObj_heap_other hl5)).trans y5
        · have hzb : (((T.it n t m).cnt : Int) == 0) = false := by
            cases hti : T.it n t m with
            | z => exact absurd hti hz
            | c q f u => simp [T.cnt]; omega
          obtain ⟨e1, e2⟩ := T.downP_none (t := t) (n := n) (by
            rcases hend with h | h | h
            · rw [← h]; exact T.down_long HNZ.out hz
            · exact absurd h hz
            · rw [hvm] at h; cases h)
          have E1 := Lib.hid e1
          have E2 := Lib.hid e2
          clear hz hvu hnz hend e1 e2
          gi_wp2
          refine ⟨trivial, (callsIn_wide.2 ki.out).mono ?_⟩
          rintro ee wx ⟨rfl, rfl⟩
          gi_wp2
          obtain ⟨y4, y5⟩ := two_set z4 z5 (.int .i64 (-1)) (.int .i64 (-1))
          have hK2 : ((Wd.setCell ⟨w.heap.size, 0, none⟩ (.int .i64 (-1))).setCell ⟨w.heap.size + 1, 0, none⟩ (.int .i64 (-1))).heap[D]? = some (.deferred (some [])) :=
            ((grownBy_setCell' _ _ _).block D (by rw [show (Wd.setCell ⟨w.heap.size, 0, none⟩ (.int .i64 (-1))).heap.size = Wd.heap.size by simp [World.setCell]]; exact hDl) (fun e => hl5 (Option.some.inj e).symm)).trans (((grownBy_setCell' _ _ _).block D hDl (fun e => hl4 (Option.some.inj e).symm)).trans HK.out)
          refine ⟨by simp, .inl ⟨_, _, rfl, run_takeDeferred hK2, ?_⟩⟩
          exact down_out rfl rfl ((World.cell?_of_block (World.putObj_heap_other hl4)).trans y4) ((World.cell?_of_block (World.putObj_heap_other hl5)).trans y5) ⟨by rw [E1.out, E2.out], (below_two HB.out _ _).grown (grownBy_putObj' _ D _) (below_two HB.out _ _).size (fun k e => by cases e; omega)⟩
      case stop =>
        rintro D c m Wd hD _ ⟨rfl, h2, h3, h4, h5, b4, b5, hb⟩ hK
        obtain ⟨e1, e2⟩ := T.downP_none (t := t) (n := n) (T.down_bad (m := m - 1) (g := 3000) (by rw [show m - 1 + 1 = m by omega]; exact h4) (by rw [show m - 1 + 1 = m by omega]; exact h5) (by omega))
        have y4 : (Wd.putObj D (.deferred none)).cell? ⟨w.heap.size, 0, none⟩ = some (.int .i64 (-1)) := (b4.kept (grownBy_putObj' Wd D _) (fun e => by have h : w.heap.size = D := Option.some.inj e; omega)).cell
        have y5 : (Wd.putObj D (.deferred none)).cell? ⟨w.heap.size + 1, 0, none⟩ = some (.int .i64 (-1)) := (b5.kept (grownBy_putObj' Wd D _) (fun e => by have h : w.heap.size + 1 = D := Option.some.inj e; omega)).cell
        have hbD : Below w.heap.size w (Wd.putObj D (.deferred none)) := hb.grown (grownBy_putObj' Wd D _) hb.size (fun k e => by cases e; omega)
        gi_wp2
        refine ⟨by simp, .inl ⟨_, _, rfl, run_takeDeferred hK, ?_⟩⟩
        exact down_out rfl rfl y4 y5 ⟨by rw [e1, e2], hbD⟩
    · have hkt : decide (0 ≤ n ∧ n ≤ 99) = false := decide_eq_false hin
      rw [hkt] at ks
      obtain ⟨e1, e2⟩ := T.downP_bad (xs := xs) (n := n) (.inr hin)
      rw [e1, e2]
      clear h h1 e1 e2 hkt hin
      refine callsIn_of_wp_marks Try.func23 rfl trivial ?_ rfl
      simp only [Try.ntmps23, List.size_toArray, List.length_cons, List.length_nil, Nat.reduceAdd, Nat.reduceSub, Array.replicate_succ, Array.replicate_zero, List.push_toArray, List.append_toArray, List.nil_append, List.cons_append]
      gi_wp2
      rw [HWW.out]
      refine ⟨trivial, (callsIn_wide.2 k1.out).mono ?_⟩
      rintro ee w3 ⟨rfl, hb3⟩
      have hl4 : w.heap.size < w2.heap.size := by omega
      have hl5 : w.heap.size + 1 < w2.heap.size := by omega
      have z4 := (hb3.cell (p := ⟨w.heap.size, 0, none⟩) hl4).trans hx4.cell
      have z5 := (hb3.cell (p := ⟨w.heap.size + 1, 0, none⟩) hl5).trans hx5.cell
      have f4 : w3.frozen? ⟨w.heap.size, 0, none⟩ = false := (World.frozen?_of_block (hb3.block _ hl4)).trans hx4.frozen
      have f5 : w3.frozen? ⟨w.heap.size + 1, 0, none⟩ = false := (World.frozen?_of_block (hb3.block _ hl5)).trans hx5.frozen
      have Hb3 := Lib.hid (hw2.trans (hb3.mono hw2.size))
      clear hb3
      gi_wp2
      refine ⟨trivial, (callsIn_wide.2 (ks.out _)).mono ?_⟩
      rintro ee wx ⟨rfl, rfl⟩
      gi_wp2
      obtain ⟨y4, y5⟩ := two_set z4 z5 (.int .i64 (-1)) (.int .i64 (-1))
      exact down_out rfl rfl y4 y5 ⟨rfl, below_two Hb3.out _ _⟩
  · have k1 := Lib.hid (impl_valid ao len cap xs w2 (h.below hw2) h1)
    obtain ⟨e1, e2⟩ := T.downP_bad (xs := xs) (n := n) (.inl h1)
    rw [e1, e2]
    clear h h1 e1 e2
    refine callsIn_of_wp_marks Try.func23 rfl trivial ?_ rfl
    simp only [Try.ntmps23, List.size_toArray, List.length_cons, List.length_nil, Nat.reduceAdd, Nat.reduceSub, Array.replicate_succ, Array.replicate_zero, List.push_toArray, List.append_toArray, List.nil_append, List.cons_append]
    gi_wp2
    rw [HWW.out]
    refine ⟨trivial, (callsIn_wide.2 k1.out).mono ?_⟩
    rintro ee w3 ⟨rfl, hb3⟩
    have hl4 : w.heap.size < w2.heap.size := by omega
    have hl5 : w.heap.size + 1 < w2.heap.size := by omega
    have z4 := (hb3.cell (p := ⟨w.heap.size, 0, none⟩) hl4).trans hx4.cell
    have z5 := (hb3.cell (p := ⟨w.heap.size + 1, 0, none⟩) hl5).trans hx5.cell
    have f4 : w3.frozen? ⟨w.heap.size, 0, none⟩ = false := (World.frozen?_of_block (hb3.block _ hl4)).trans hx4.frozen
    have f5 : w3.frozen? ⟨w.heap.size + 1, 0, none⟩ = false := (World.frozen?_of_block (hb3.block _ hl5)).trans hx5.frozen
    have Hb3 := Lib.hid (hw2.trans (hb3.mono hw2.size))
    clear hb3
    gi_wp2
    refine ⟨trivial, ?_⟩
    gi_wp2
    obtain ⟨y4, y5⟩ := two_set z4 z5 (.int .i64 (-1)) (.int .i64 (-1))
    exact down_out rfl rfl y4 y5 ⟨rfl, below_two Hb3.out _ _⟩
end Go.Proofs.Ytdcaefgbpnjjaaa
