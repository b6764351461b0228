/- Relations: RanksOf of the program. -/
import Derived.Test.YtagdeifalkenhaaDoorRelD
import Derived.Test.YtagdeifalkenhaaDoorRelF
import Derived.Test.YtagdeifalkenhaaDoorRepI
import Derived.Test.YtagdeifalkenhaaDoorRelGk
namespace Go.Proofs.YtagdeifalkenhaaDoor
set_option maxRecDepth 100000
open Go.RowKit Go.Shelf

attribute [local go_sem] Oper.semAt_some

theorem Rp_one (k : Nat) (v : Int) : Rp k [v] = List.replicate k v := by
  induction k with
  | zero => rfl
  | succ k ih => rw [Rp, ih, List.replicate_succ]; rfl

theorem ranks_out {W : World} {n : Nat} {tmps : Array Value} {v : Value} (ht : tmps[2]?.getD undef = v) {R : Ending → World → Prop} (hR : R (.returned v) W) :
    LeavesInM Fence.wide n Tryd.prog Tryd.f11 tmps R [] .returning W := by
  refine ⟨_, ?_, hR⟩
  simp [results, Tryd.f11, go_sem, ht]

def RkTmps (ao : Option Addr) (n c L rb B3 : Nat) (u : Nat → Value) : Array Value :=
  #[.slice ao n c, undef, .slice none 0 0, .pointer (some ⟨B3, 0, none⟩), .int .i64 L, .pointer (some ⟨rb, 0, none⟩), u 6, u 7, u 8, u 9, u 10, u 11, u 12, u 13, u 14, u 15, u 16, u 17, u 18, u 19, u 20, u 21, u 22, u 23, u 24, u 25, u 26, u 27, u 28, u 29, u 30, u 31, u 32, u 33, u 34, u 35, u 36]
/-- What lies between two rounds. -/
structure RkM (w : World) (xs : List Int) (n r : Nat) (fs : List Int) (rb B3 : Nat) (Ds : List Nat) (W : World) : Prop where
  row : Boxed W B3 23 (.slice (some ⟨w.heap.size + 1, 0, none⟩) n n)
  rank : Boxed W rb 3 (.int .i64 r)
  own : W.ownsRow w.heap.size 3 1 (.slice (some ⟨w.heap.size + 1, 0, none⟩) n n) n (ints fs)
  below : Below w.heap.size w W
  ds : ∀ D ∈ Ds, W.heap[D]? = some (.deferred (some []))
def RkL (w : World) (xs : List Int) (ao : Option Addr) (n c m : Nat) (a : Act) (W : World) : Prop :=
  ∃ (r L : Nat) (fs : List Int) (rb B3 : Nat) (Ds : List Nat) (u : Nat → Value), a = { tmps := RkTmps ao n c L rb B3 u, defers := Ds.map mark } ∧
    card L < m ∧ Hid (RkI xs r L fs) ∧ RkM w xs n r fs rb B3 Ds W ∧ (Ds.Nodup ∧ ∀ D ∈ Ds, w.heap.size ≤ D) ∧ w.heap.size + 1 < B3 ∧ B3 < rb

theorem RkM.under {w : World} {xs : List Int} {n r : Nat} {fs : List Int} {rb B3 : Nat} {Ds : List Nat} {W W' : World} (h : RkM w xs n r fs rb B3 Ds W) (hb : Below W.heap.size W W') : RkM w xs n r fs rb B3 Ds W' :=
  ⟨Boxed.belowK h.row hb h.row.lt, Boxed.belowK h.rank hb h.rank.lt, ownsRow_below' h.own hb, h.below.trans (hb.mono h.below.size), fun D hD => (hb.block D (Array.getElem?_eq_some_iff.1 (h.ds D hD)).1).trans (h.ds D hD)⟩
theorem RkM.turn {w : World} {xs : List Int} {n r : Nat} {fs : List Int} {rb B3 s : Nat} {Ds : List Nat} {A C : World} {row : Option Nat} (h : RkM w xs n r fs rb B3 Ds A) (hs : w.heap.size ≤ s) (hds : ∀ D ∈ Ds, D < s) (hg : A.grownBy C row)
    (hr : ∀ k, row = some k → s ≤ k ∧ ∃ o : Obj, A.heap[k]? = some o ∧ o.isCells = false) : RkM w xs n r fs rb B3 Ds C := by
  have hne : ∀ k cs t f, A.heap[k]? = some (.cells cs t f) → row ≠ some k := fun k cs t f hk he => by
    obtain ⟨_, o, ho, hc⟩ := hr k he
    rw [hk] at ho
    cases ho
    cases hc
  refine ⟨h.row.kept hg (fun he => hne _ _ _ _ h.row he.symm), h.rank.kept hg (fun he => hne _ _ _ _ h.rank he.symm), h.own.kept hg ?_, h.below.grown hg h.below.size (fun k e => by have := (hr k e).1; omega), fun D hD => ?_⟩
  · rcases h.own.2 with ⟨h9, _⟩ | ⟨g, cap, cur, h9, _, hgb, _⟩
    · rw [h9]; exact .inl rfl
    · rw [h9]; exact .inr (fun e' => hne _ _ _ _ hgb e'.symm)
  · have hlt := (Array.getElem?_eq_some_iff.1 (h.ds D hD)).1
    exact (hg.block D hlt (fun e => by have h1 := (hr D e.symm).1; have h2 := hds D hD; omega)).trans (h.ds D hD)

theorem RkM.put {w : World} {xs : List Int} {n r : Nat} {fs : List Int} {rb B3 : Nat} {Ds : List Nat} {W : World} (h : RkM w xs n r fs rb B3 Ds W) (h1 : w.heap.size + 1 < B3) (h2 : w.heap.size + 1 < rb) (k : Nat) (v : Int) :
    RkM w xs n r (fs.set k v) rb B3 Ds (W.setCell ⟨w.heap.size + 1, k, none⟩ (.int .i64 v)) := by
  have hs := h.own.stored k (.int .i64 v)
  rw [ints_set] at hs
  refine ⟨h.row.kept hs.2 (fun e => by cases e; omega), h.rank.kept hs.2 (fun e => by cases e; omega), hs.1, h.below.setCell (p := ⟨w.heap.size + 1, k, none⟩) (by simp) _, fun D hD => ?_⟩
  have hlt := (Array.getElem?_eq_some_iff.1 (h.ds D hD)).1
  rcases h.own.2 with ⟨h9, _⟩ | ⟨g, cap, cur, h9, _, hgb, _⟩
  · cases h9
  · cases h9
    exact (hs.2.block D hlt (fun e => cells_ne (h.ds D hD) hgb (Option.some.inj e))).trans (h.ds D hD)
theorem RkM.next {w : World} {xs : List Int} {n r : Nat} {fs : List Int} {rb B3 D : Nat} {Ds : List Nat} {W : World} (h : RkM w xs n r fs rb B3 Ds W) (hD : W.heap[D]? = some (.deferred (some []))) (r2 : Nat) :
    RkM w xs n r2 fs W.heap.size B3 (D :: Ds) (W.alloc (.cells #[.int .i64 r2] 3)) := by
  refine ⟨h.row.alloc _, Boxed.new W _ _, h.own.alloc _, h.below.alloc h.below.size _, fun E hE => ?_⟩
  have hE' : W.heap[E]? = some (.deferred (some [])) := by
    rcases List.mem_cons.1 hE with rfl | h9
    · exact hD
    · exact h.ds E h9
  exact (Below.heap_alloc _ _ _ (Array.getElem?_eq_some_iff.1 hE').1).trans hE'
theorem nowh_card {xs : List Int} (hR : RelOk xs) {L : Nat} (h1 : L < 2 ^ xs.length) (hN : nowh xs L ≠ 0) : card (dif L (nowh xs L)) < card L := by
  have hL : L < 4096 := Nat.lt_of_lt_of_le h1 (two_le hR.1.2)
  obtain ⟨k, hk⟩ := ne_zero hN
  have hk2 := (nowh_bit (xs := xs) hL k).1 hk
  exact card_lt (fun j hj => by rw [dif_bit] at hj; simp at hj; exact hj.1) (bit_lt (m := 12) hL hk2.1) hk2.1 (by rw [dif_bit, hk]; simp)

set_option maxRecDepth 100000 in
set_option maxHeartbeats 4000000 in
theorem impl_RanksOf (ao : Option Addr) (n c : Nat) (xs : List Int) (w : World) (h : Sl w ao n c xs) (hT : Tab w) :
    Calls Tryd.prog 11 #[.slice ao n c] w (RkPost w (ranks xs)) := by
  have HL := Lib.hid h.1
  have H := Lib.hid h
  have k1 := Lib.hid (fun wx hb => iRelValid_any ao n c xs wx (h.below (w' := wx) hb))
  have htl := hT.lt
  have HT := Lib.hid hT
  obtain ⟨r, hr⟩ : ∃ r, r = ranks xs := ⟨_, rfl⟩
  have HNo : Hid (¬ RelOk xs → r = []) := fun h9 => hr.trans (ranks_no h9)
  have HYes : Hid (∀ r' L fs, RelOk xs → RkI xs r' L fs → nowh xs L = 0 → r = fs) := fun r' L fs h1 h2 h3 => by rw [hr, ← ranks_done h1 h2 h3]
  rw [← hr]
  clear h hr hT
  refine (callsIn_wide (n := 20)).1 ?_
  rcases rel_tf xs with h1 | h1
  · rw [h1] at k1
    have hR := relB_true.1 h1
    have hn12 := hR.1
    rw [HL.out] at hn12
    have HR := Lib.hid hR
    clear h1 hR
    refine callsIn_of_wp_marks Tryd.func11 rfl trivial ?_ rfl
    simp only [Tryd.ntmps11, List.size_toArray, List.length_cons, List.length_nil, Nat.reduceAdd, Nat.reduceSub, Array.replicate_succ, Array.replicate_zero, List.push_toArray, List.append_toArray, List.nil_append, List.cons_append]
    gi_wp2
    refine ⟨trivial, (callsIn_wide.2 (k1.out _ (Below.refl _ _))).mono ?_⟩
    rintro ee wx ⟨rfl, rfl⟩
    gi_wp2
    obtain ⟨W1, hW1⟩ : ∃ W1, W1 = w.alloc (.cells #[.int .i64 (-1)] 3) := ⟨_, rfl⟩
    have hat1 : At W1 w.heap.size 0 [-1] := by
      intro j hj
      have hj0 : j = 0 := by simpa using hj
      subst hj0
      rw [hW1]
      exact (Joins.cell_alloc_mark_at _ _ _ _ _ _ rfl).trans rfl
    have hb1 : Below w.heap.size w W1 := by rw [hW1]; exact (Below.refl _ _).alloc (Nat.le_refl _) _
    have kr := Lib.hid (repeatI_any w.heap.size 0 1 1 n [-1] W1 rfl (by decide) hn12.1 (by omega) hat1)
    rw [Nat.one_mul, Rp_one] at kr
    have hs1 : W1.heap.size = w.heap.size + 1 := by rw [hW1]; simp
    have HW1 := Lib.hid hW1.symm
    have Hb1 := Lib.hid hb1
    clear hat1 hb1 hW1
    rw [HW1.out]
    refine ⟨trivial, (callsIn_wide.2 kr.out).mono ?_⟩
    rintro ee w2 ⟨rfl, ho2, hb2⟩
    have Hb2 := Lib.hid (Hb1.out.trans (hb2.mono (by omega)))
    have Ho2 := Lib.hid (Joins.ownsRow_le ho2 (show w.heap.size ≤ W1.heap.size by omega))
    have hs2 : w.heap.size + 1 ≤ w2.heap.size := by have := hb2.size; omega
    have hg2 := (ho2.lt W1.heap.size rfl).2
    rw [hs1] at Ho2 hg2 ⊢
    clear ho2 hb2
    have kf := Lib.hid (fun wx => setOfFirst_any n (by omega) wx)
    have hq4 : 2 ^ n ≤ 4096 := two_le hn12.2
    obtain ⟨q, hq⟩ : ∃ q, q = 2 ^ n - 1 := ⟨_, rfl⟩
    rw [← hq] at kf
    have hst := RkI.start HR.out
    rw [HL.out, ← hq] at hst
    have Hst := Lib.hid hst
    clear hst hq
    gi_wp2
    refine ⟨trivial, (callsIn_wide.2 (kf.out _)).mono ?_⟩
    rintro ee wx ⟨rfl, rfl⟩
    gi_wp2
    have hst0 : RkM w xs n 0 (List.replicate n (-1)) (w2.heap.size + 1) w2.heap.size [] ((w2.alloc (.cells #[.slice (some ⟨w.heap.size + 1, 0, none⟩) n n] 23)).alloc (.cells #[.int .i64 0] 3)) := by
      refine ⟨(Boxed.new w2 _ _).alloc _, ?_, (Ho2.out.alloc _).alloc _, (Hb2.out.alloc Hb2.out.size _).alloc (by simp; have := Hb2.out.size; omega) _, fun D hD => by cases hD⟩
      have h9 := Boxed.new (w2.alloc (.cells #[.slice (some ⟨w.heap.size + 1, 0, none⟩) n n] 23)) 3 (.int .i64 0)
      rw [World.size_alloc] at h9
      exact h9
    have hcq : card q < 13 := by
      have h9 := Hst.out.1
      rw [HL.out] at h9
      have := card_le hn12.2 h9
      omega
    refine wpIn_loop_inv (RkL w xs ao n c) 13 ?start (fun _ _ h9 => by obtain ⟨_, _, _, _, _, _, _, _, h8, _⟩ := h9; omega) ?round
    case start =>
      exact ⟨0, q, _, w2.heap.size + 1, w2.heap.size, [], (fun k => [undef, undef, undef, undef, undef, undef, undef, undef, .slice ao n c, .bool true, .bool false, .slice (some ⟨w.heap.size, 0, none⟩) 1 1, .slice ao n c, .int .i64 n, .slice (some ⟨w.heap.size + 1, 0, none⟩) n n, .slice ao n c, .int .i64 n, .int .i64 q].getD k undef), rfl,
        hcq, Hst.out, hst0, ⟨List.nodup_nil, fun D hD => by cases hD⟩, by omega, by omega⟩
    case round =>
      rintro m a W K ⟨r', L, fs, rb, B3, Ds, u, rfl, hcm, HI, hM, ⟨hnd, hlo⟩, hB3, hrb⟩ hK
      have hbW := hM.below
      have hL9 := HI.out.1
      rw [HL.out] at hL9
      have kl := Lib.hid (leadNowhereIn_any ao n c xs L W (H.out.below hbW) HR.out hL9 (HT.out.below hbW htl))
      have hL4 : L < 4096 := Nat.lt_of_lt_of_le hL9 (two_le hn12.2)
      have hN9 : nowh xs L < 2 ^ n := nowhs_lt (fun k hk => bit_lt hL9 ((mem_pts hL4).1 hk))
      obtain ⟨N, hN⟩ : ∃ N, N = nowh xs L := ⟨_, rfl⟩
      rw [← hN] at kl hN9
      have HN := Lib.hid hN
      have hN4 : N < 4096 := Nat.lt_of_lt_of_le hN9 (two_le hn12.2)
      clear hN
      rw [RkTmps]
      gi_wp2
      refine ⟨trivial, (callsIn_wide.2 kl.out).mono ?_⟩
      rintro ee W2 ⟨rfl, hb2⟩
      have hM2 := hM.under hb2
      have hsz2 := hb2.size
      have HM2 := Lib.hid hM2
      have Hnd := Lib.hid hnd
      have Hlo := Lib.hid hlo
      clear hM hbW hb2 hnd hlo
      by_cases hN0 : N = 0
      · have hz : ((N : Int) == 0) = true := by simp [hN0]
        have z3 := hM2.row.cell
        have hrf := HYes.out r' L fs HR.out HI.out (by rw [← HN.out]; exact hN0)
        have hfl : fs.length = n := by rw [HI.out.2.1, HL.out]
        have HRf := Lib.hid hrf
        have Hfl := Lib.hid hfl
        clear hN0 hM2 hrf hfl
        gi_wp2
        refine leaves_marks (K := fun W' => W'.ownsRow w.heap.size 3 1 (.slice (some ⟨w.heap.size + 1, 0, none⟩) n n) n (ints fs) ∧ Below w.heap.size w W') w.heap.size ?_ ?_ Ds W2 Hnd.out Hlo.out HM2.out.ds ⟨HM2.out.own, HM2.out.below⟩
        · rintro W' D o' ⟨h1, h2⟩ hl hD
          exact ⟨ownsRow_putObj h1 _ hD rfl, h2.grown (grownBy_putObj' W' D o') h2.size (fun k e => by cases e; exact hl)⟩
        · rintro W' ⟨h1, h2⟩
          have hfin : RkPost w fs (.returned (.slice (some ⟨w.heap.size + 1, 0, none⟩) n n)) W' := by
            rw [← Hfl.out] at h1 ⊢
            exact ⟨_, _, rfl, h1, h2⟩
          rw [HRf.out]
          exact ranks_out rfl hfin
      · have hz : ((N : Int) == 0) = false := by simp [hN0]
        obtain ⟨ps, hps⟩ := pts_pt hn12.2 hN9
        have hnx := HI.out.next HR.out (by rw [← HN.out]; exact hN0)
        rw [← HN.out, ← hps] at hnx
        have Hnx := Lib.hid hnx
        have hcl : card (dif L N) < m := by
          have h9 := nowh_card HR.out HI.out.1 (by rw [← HN.out]; exact hN0)
          rw [← HN.out] at h9
          omega
        have hr9 : r' ≤ 12 := by have := HI.out.2.2.1; rw [HL.out] at this; omega
        have hd := andNot_i64 L N (by omega) (by omega)
        obtain ⟨d, hdd⟩ : ∃ d, d = dif L N := ⟨_, rfl⟩
        rw [← hdd] at hd hcl Hnx
        clear hN0 hM2 hnx hdd
        gi_wp2
        refine ⟨trivial, (callsIn_wide.2 (pointsIn_any N _)).mono ?_⟩
        rintro ee ws ⟨rfl, rfl⟩
        gi_wp2
        obtain ⟨W0, hW0⟩ : ∃ W0, W0 = W2.alloc (.cells #[.int .i64 N] 3) := ⟨_, rfl⟩
        rw [← hW0]
        have hb0 : Below W2.heap.size W2 W0 := by rw [hW0]; exact (Below.refl _ _).alloc (Nat.le_refl _) _
        have es : Boxed W0 W2.heap.size 3 (.int .i64 N) := by rw [hW0]; exact Boxed.new W2 _ _
        have hs0 : W0.heap.size = W2.heap.size + 1 := by rw [hW0]; simp
        have hM0 := HM2.out.under hb0
        have hwW0 := hM0.below.size
        have hDs0 : ∀ D ∈ Ds, D < W0.heap.size := fun D hD => (Array.getElem?_eq_some_iff.1 (hM0.ds D hD)).1
        have HDs0 := Lib.hid hDs0
        have hst := points1_stops 19 n N W2.heap.size w.heap.size ps W0 hn12.2 hN9 hps hwW0 htl (HT.out.below hM0.below htl) (by omega) es.cell
        have h00 : RkM w xs n r' (setAll fs (([] : List (Pt n)).map (·.1)) r') rb B3 Ds W0 := hM0
        have Hps := Lib.hid hps
        clear hW0 es hb0 hM0 hDs0 hps
        refine wpIn_rangeFunc_ownG rfl (by omega) (gf := 55) (lb := #[.pointer (some ⟨W2.heap.size, 0, none⟩)]) rfl trivial (enters_of Tryd.func55 (by kernel_rfl) rfl)
          hst Below.trans (belowPut hwW0) (Below.refl _ _) (fun _ => rfl) (fun (pre : List (Pt n)) W' => RkM w xs n r' (setAll fs (pre.map (·.1)) r') rb B3 Ds W') (fun _ _ _ => False) ?hI ?hIx h00
          (fun x => { tmps := #[.slice ao n c, undef, .slice none 0 0, .pointer (some ⟨B3, 0, none⟩), .int .i64 L, .pointer (some ⟨rb, 0, none⟩), .int .i64 N, .int .i64 x.1, u 8, u 9, u 10, u 11, u 12, u 13, u 14, u 15, u 16, u 17, u 18, u 19, .slice ao n c, .int .i64 L, .int .i64 N, .int .i64 N, .bool false, u 25, .int .i64 N, .func (.func 55) #[] #[.pointer (some ⟨W2.heap.size, 0, none⟩)], .int .i64 x.1, u 29, u 30, u 31, u 32, u 33, u 34, u 35, u 36], defers := [] }) ?assign ?body ?done ?stop
        case hI =>
          intro s' A C row hm hg hr
          exact hm.turn hwW0 HDs0.out hg hr
        case hIx => exact fun _ _ _ _ _ h _ _ => h
        case assign =>
          intro l' x W' K' hK'
          gi_wp2
          exact hK'
        case body =>
          intro l pre x Wr hm _
          have hxn : x.1 < n := x.2
          have z3 := hm.row.cell
          have z5 := hm.rank.cell
          have hfl : (setAll fs (pre.map (·.1)) r').length = n := by rw [setAll_len, HI.out.2.1, HL.out]
          have hc : Wr.cell? ⟨w.heap.size + 1, x.1, none⟩ = some (.int .i64 ((setAll fs (pre.map (·.1)) r').getD x.1 0)) := by
            rw [hm.own.cellAt x.1 (by omega), ints_get _ x.1 (by rw [hfl]; exact hxn)]
          have hf := hm.own.frozenAt x.1
          have hsn : setAll fs ((pre ++ [x]).map (·.1)) r' = (setAll fs (pre.map (·.1)) r').set x.1 r' := by rw [List.map_append, List.map_cons, List.map_nil, setAll_snoc]
          obtain ⟨f0, hf0⟩ : ∃ f0, f0 = setAll fs (pre.map (·.1)) r' := ⟨_, rfl⟩
          rw [← hf0] at hm hc hsn
          obtain ⟨y, hy⟩ : ∃ y, y = f0.getD x.1 0 := ⟨_, rfl⟩
          rw [← hy] at hc
          have Hm := Lib.hid hm
          have Hsn := Lib.hid hsn
          clear hm hf0 hsn hy hfl
          gi_wp2
          refine ⟨(KeepsOthers.setCell Wr ⟨w.heap.size + 1, x.1, none⟩ (.int .i64 r')).from _, (Below.refl _ _).setCell (p := ⟨w.heap.size + 1, x.1, none⟩) (by simp) _, ?_⟩
          have hpf := Hm.out.put hB3 (by omega) x.1 r'
          rw [← Hsn.out] at hpf
          exact hpf
        case done =>
          rintro D xs' Wd hD rfl hm hKD
          have z5 := hm.rank.cell
          have Hm := Lib.hid hm
          clear hm
          gi_wp2
          have hn2 := Hm.out.next hKD (r' + 1)
          have e1 : ((r' + 1 : Nat) : Int) = (r' : Int) + 1 := by omega
          rw [e1] at hn2
          exact ⟨r' + 1, d, _, Wd.heap.size, B3, D :: Ds, (fun k => [undef, undef, undef, undef, undef, undef, .int .i64 N, u 7, u 8, u 9, u 10, u 11, u 12, u 13, u 14, u 15, u 16, u 17, .int .i64 r', .int .i64 ((r' : Int) + 1), .slice ao n c, .int .i64 L, .int .i64 N, .int .i64 N, .bool false, u 25, .int .i64 N, .func (.func 55) #[] #[.pointer (some ⟨W2.heap.size, 0, none⟩)], u 28, u 29, u 30, u 31, u 32, .int .i64 L, .int .i64 N, .int .i64 d, .int .i64 r'].getD k undef), rfl,
            hcl, Hnx.out, hn2, ⟨List.nodup_cons.2 ⟨fun h9 => by have := HDs0.out D h9; omega, Hnd.out⟩, fun E hE => by
              rcases List.mem_cons.1 hE with rfl | h9
              · omega
              · exact Hlo.out E h9⟩, hB3, Hm.out.row.lt⟩
        case stop => exact fun _ _ _ _ _ _ h _ => h.elim
  · rw [h1] at k1
    obtain rfl := HNo.out (relB_false h1)
    clear h1
    refine callsIn_of_wp_marks Tryd.func11 rfl trivial ?_ rfl
    simp only [Tryd.ntmps11, List.size_toArray, List.length_cons, List.length_nil, Nat.reduceAdd, Nat.reduceSub, Array.replicate_succ, Array.replicate_zero, List.push_toArray, List.append_toArray, List.nil_append, List.cons_append]
    gi_wp2
    refine ⟨trivial, (callsIn_wide.2 (k1.out _ (Below.refl _ _))).mono ?_⟩
    rintro ee wx ⟨rfl, rfl⟩
    gi_wp2
    exact ranks_out rfl ⟨none, 0, rfl, ⟨rfl, .inl ⟨rfl, rfl⟩⟩, Below.refl _ _⟩

end Go.Proofs.YtagdeifalkenhaaDoor
