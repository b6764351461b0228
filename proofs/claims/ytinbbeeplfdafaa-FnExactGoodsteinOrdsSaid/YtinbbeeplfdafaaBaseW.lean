/- GoodsteinOrds: the program's and the model's answers. -/
import Derived.Test.YtinbbeeplfdafaaBaseV
import Derived.Test.YtinbbeeplfdafaaRowsK
namespace Go.Proofs.Ytinbbeeplfdafaa
open Go.RowKit

theorem T.goodOrds_stop {x b : Int} {xs : List Int} (h : T.baseRow x b = []) : T.goodOrds (x :: xs) b = [] := by rw [T.goodOrds, if_pos h]
theorem T.goodOrds_go {x b : Int} {xs : List Int} (h : T.baseRow x b ≠ []) : T.goodOrds (x :: xs) b = T.ordB b.toNat x.toNat :: T.goodOrds xs (b + 1) := by rw [T.goodOrds, if_neg h]
theorem T.baseRow_enc {x b : Int} (h : T.baseRow x b ≠ []) : (0 ≤ x ∧ x ≤ 1000000000 ∧ 2 ≤ b ∧ b ≤ 90) ∧ T.baseRow x b = (T.ordB b.toNat x.toNat).enc ∧ T.vldB (T.ordB b.toNat x.toNat).enc = true := by
  unfold T.baseRow at h ⊢
  split at h
  · rename_i hc
    rw [if_pos hc]
    rw [T.fit] at h ⊢
    split at h
    · rename_i hv
      rw [if_pos hv]
      exact ⟨hc, rfl, hv⟩
    · exact absurd rfl h
  · exact absurd rfl h
theorem T.goods_mem : ∀ (k : Nat) (n b x : Int), x ∈ T.goods k n b → 0 ≤ x ∧ x ≤ 1000000000 := by
  intro k
  induction k with
  | zero => intro n b x h; cases h
  | succ k ih =>
    intro n b x h
    rw [T.goods] at h
    split at h
    · cases h
    · rcases List.mem_cons.1 h with h1 | h1
      · rcases T.goodI_vals n b with h2 | h2
        · omega
        · rw [h1]; exact h2
      · exact ih _ _ _ h1
theorem T.goodRun_mem {n x : Int} (h : x ∈ T.goodRun n) : 0 ≤ x ∧ x ≤ 1000000000 := by
  unfold T.goodRun at h
  split at h
  · rename_i hc
    rcases List.mem_cons.1 h with h1 | h1
    · omega
    · exact T.goods_mem _ _ _ _ h1
  · cases h
theorem T.goodRun_cnt (n : Int) : (T.goodRun n).length ≤ 60 := by
  unfold T.goodRun
  split
  · simp only [List.length_cons]; have := T.goods_len 59 n 2; omega
  · simp

def GoPost (w : World) (r : List T) (e : Ending) (w' : World) : Prop :=
  ∃ a n c vs, e = .returned (.slice a n c) ∧ n = r.length ∧ w'.ownsRow w.heap.size 22 1 (.slice a n c) n vs ∧ RowsT w.heap.size w' vs r ∧ Below w.heap.size w w'
def GoPostI (w : World) (r : List T) (e : Ending) (w' : World) : Prop :=
  ∃ a n c vs, e = .returned (.slice a n c) ∧ n = r.length ∧ w'.ownsRow w.heap.size 22 1 (.slice a n c) n vs ∧ RowsT w.heap.size w' vs r ∧ Below w.heap.size w w' ∧ ∃ U, Blocks U vs

theorem RowsT.grown {B B' n : Nat} {W w' : World} {vs xs : List Value} {ts : List T} {v : Value} (h : RowsT B W vs ts) (ho : W.ownsRow B' 22 1 v n xs) (hg : W.grownBy w' v.ownBlock) : RowsT B w' vs ts :=
  h.kept (fun g cur _ hc => hg.block g (Array.getElem?_eq_some_iff.1 hc).1 (fun e => by
    obtain ⟨_, ⟨h1, _⟩ | ⟨g', cap, cur', he, _, hc', _⟩⟩ := ho
    · rw [h1] at e; cases e
    · rw [he] at e
      have e' : g = g' := by simpa [Value.ownBlock] using e
      rw [e'] at hc
      rw [hc] at hc'
      cases hc'))
theorem RowsT.below {B : Nat} {w w' : World} {vs : List Value} {ts : List T} (h : RowsT B w vs ts) (hb : Below w.heap.size w w') : RowsT B w' vs ts :=
  h.kept (fun _ _ _ hc => hb.block _ (Array.getElem?_eq_some_iff.1 hc).1)

/-- Between two rounds. -/
def GoL (w : World) (run : List Int) (ar : Option Addr) (L cr : Nat) (gk : Nat) (vo vi : Value) (wr : World) : Prop :=
  ∃ (i : Nat) (a : Option Addr) (c : Nat) (vs : List Value) (done : List T), vi = .int .i64 i ∧ gk + i = L ∧ vo = .slice a i c ∧ done.length = i ∧ T.goodOrds run 2 = done ++ T.goodOrds (run.drop i) ((i : Int) + 2) ∧
    wr.ownsRow w.heap.size 22 1 (.slice a i c) i vs ∧ RowsT w.heap.size wr vs done ∧ Blocks wr.heap.size vs ∧ wr.ownsRow w.heap.size 3 1 (.slice ar L cr) L (ints run) ∧ Below w.heap.size w wr

theorem GoL.done {w wr : World} {run : List Int} {a : Option Addr} {i c : Nat} {vs : List Value} {done r : List T} (ho : wr.ownsRow w.heap.size 22 1 (.slice a i c) i vs) (hR : RowsT w.heap.size wr vs done) (hB : Blocks wr.heap.size vs) (hb : Below w.heap.size w wr)
    (hd : done.length = i) (hr : T.goodOrds run 2 = done ++ r) (he : r = []) : GoPostI w (T.goodOrds run 2) (.returned (.slice a i c)) wr := by
  subst he
  rw [List.append_nil] at hr
  rw [hr]
  exact ⟨a, i, c, vs, rfl, hd.symm, ho, hR, hb, _, hB⟩
theorem GoPostI.weak {w w' : World} {r : List T} {e : Ending} (h : GoPostI w r e w') : GoPost w r e w' := by
  obtain ⟨a, n, c, vs, h1, h2, h3, h4, h5, _⟩ := h
  exact ⟨a, n, c, vs, h1, h2, h3, h4, h5⟩

/-- A row is appended. -/
theorem GoL.next {w w2 w3 : World} {run : List Int} {ar : Option Addr} {L cr t i g c2 c3 ln : Nat} {a a3 : Option Addr} {c : Nat} {vs : List Value} {done : List T} {u : T}
    (ho : w2.ownsRow w.heap.size 22 1 (.slice a i c) i vs) (hR : RowsT w.heap.size w2 vs done) (hB : Blocks w2.heap.size vs) (hrun : w2.ownsRow w.heap.size 3 1 (.slice ar L cr) L (ints run)) (hb : Below w.heap.size w w2)
    (hgk : t + 1 + i = L) (hd : done.length = i) (hn : T.goodOrds run 2 = (done ++ [u]) ++ T.goodOrds (run.drop (i + 1)) (((i + 1 : Nat) : Int) + 2)) (hln : ln = u.enc.length) (B2 : Nat) (hBb : ∀ (i' g' n' c' : Nat), vs[i']? = some (.slice (some ⟨g', 0, none⟩) n' c') → g' < B2) (hB2 : w.heap.size ≤ B2)
    (hnew : w2.ownsRow B2 3 1 (.slice (some ⟨g, 0, none⟩) ln c2) ln (ints u.enc))
    (h3 : w3.ownsRow w.heap.size 22 1 (.slice a3 (i + 1) c3) (i + 1) (vs ++ [.slice (some ⟨g, 0, none⟩) ln c2]))
    (hg : (w2.alloc (.cells #[.slice (some ⟨g, 0, none⟩) ln c2] 22)).grownBy w3 (Value.slice a i c).ownBlock) :
    GoL w run ar L cr t (.slice a3 (i + 1 : Nat) c3) (.int .i64 ((i + 1 : Nat) : Int)) w3 := by
  subst hln
  have hA : Below w2.heap.size w2 (w2.alloc (.cells #[.slice (some ⟨g, 0, none⟩) u.enc.length c2] 22)) := (Below.refl _ _).alloc (Nat.le_refl _) _
  have hgs : (w2.alloc (.cells #[.slice (some ⟨g, 0, none⟩) u.enc.length c2] 22)).heap.size ≤ w3.heap.size := hg.size
  rw [World.size_alloc] at hgs
  have hgl := (hnew.lt g rfl)
  have hR2 : RowsT w.heap.size w2 (vs ++ [.slice (some ⟨g, 0, none⟩) u.enc.length c2]) (done ++ [u]) := hR.snoc (Joins.ownsRow_le hnew hB2)
  refine ⟨i + 1, a3, c3, _, done ++ [u], rfl, by omega, rfl, by simp [hd], hn, h3, (hR2.below hA).grown (ho.alloc _) hg, ?_, (hrun.alloc _).kept hg (own_ne (hrun.alloc (.cells #[.slice (some ⟨g, 0, none⟩) u.enc.length c2] 22)) (ho.alloc _) (by decide)), (hb.alloc hb.size _).grown hg (by rw [World.size_alloc]; have := hb.size; omega) (fun r e => (ho.lt r e).1)⟩
  have hb1 : Blocks B2 vs := ⟨hBb, hB.2⟩
  exact hb1.snoc hgl.1 (by omega)

theorem eql_nil_yes (w : World) : (binOp .eql 22 (.slice none 0 0) (.slice none 0 0)).run Try.prog w = .ok (.bool true) w := by kernel_rfl
theorem eql_nil_no (w : World) (g n c : Nat) : (binOp .eql 22 (.slice (some ⟨g, 0, none⟩) n c) (.slice none 0 0)).run Try.prog w = .ok (.bool false) w := by kernel_rfl
theorem slice_one (a : Option Addr) (n c : Nat) : ∀ u ∈ [Value.slice a n c], u.oneCell' = true := slice_oneCell a n c

set_option maxHeartbeats 2000000 in
theorem impl_GoodsteinOrds (n : Int) (w : World) (hn0 : -9223372036854775808 ≤ n) (hn1 : n ≤ 9223372036854775807) :
    Calls Try.prog 30 #[.int .i64 n] w (GoPostI w (T.goodOrds (T.goodRun n) 2)) := by
  obtain ⟨j0, hj, hy0, hy1, hy2⟩ := info_parts info_ints
  have k1 := Lib.hid (impl_GoodsteinRun n w hn0 hn1)
  have hcnt := T.goodRun_cnt n
  have hmem := Lib.hid (fun x => T.goodRun_mem (n := n) (x := x))
  obtain ⟨run, hrun⟩ : ∃ run, run = T.goodRun n := ⟨_, rfl⟩
  rw [← hrun] at k1 hcnt hmem ⊢
  obtain ⟨L, hL⟩ : ∃ L, L = run.length := ⟨_, rfl⟩
  unfold IntPost at k1
  rw [← hL] at k1 hcnt
  have HL := Lib.hid hL
  clear hrun hL
  go_enter Try.func30, Try.ntmps30
  go_wp2_with fail
  refine (k1.out).mono ?_
  rintro ee w1 ⟨ar, cr, rfl, ho1, hb1⟩
  have hst : GoL w run ar L cr L (.slice none 0 0) (.int .i64 0) w1 :=
    ⟨0, none, 0, [], [], rfl, rfl, rfl, rfl, rfl, ⟨rfl, .inl ⟨rfl, rfl⟩⟩, RowsT.nil _ _, Blocks.nil _, ho1, hb1⟩
  have Hst := Lib.hid hst
  clear ho1 hb1 hst
  go_wp2_with fail
  go_loopg [3, 10] L (fun gk v3 v10 wr => GoL w run ar L cr gk v3 v10 wr)
  case atStart => exact Hst.out
  case round =>
    obtain ⟨i, a, c, vs, done, rfl, hgk, rfl, hd, hgo, ho, hR, hB, hrn, hb⟩ := hrel
    have Hd := Lib.hid hd
    have Hgo := Lib.hid hgo
    have Ho := Lib.hid ho
    have HR := Lib.hid hR
    have HB := Lib.hid hB
    have Hrn := Lib.hid hrn
    have Hb := Lib.hid hb
    have hws := hb.size
    clear hd hgo ho hR hB hrn hb
    by_cases hlt : i < L
    · obtain ⟨t, ht⟩ : ∃ t, gk = t + 1 := ⟨gk - 1, by omega⟩
      subst ht
      obtain ⟨gr, c', hv⟩ := Joins.ownsRow_form Hrn.out (by omega)
      simp only [Value.slice.injEq] at hv
      obtain ⟨rfl, _, rfl⟩ := hv
      have hir : i < run.length := by rw [← HL.out]; exact hlt
      obtain ⟨x, hx⟩ : ∃ x, x = run[i] := ⟨_, rfl⟩
      have hdr : run.drop i = x :: run.drop (i + 1) := by rw [hx]; exact List.drop_eq_getElem_cons hir
      have y0 : wr.cell? ⟨gr, i, none⟩ = some (.int .i64 x) := (Hrn.out.cellAt i (by omega)).trans (by rw [ints, List.getElem?_map, List.getElem?_eq_getElem hir, ← hx]; rfl)
      have Hdr := Lib.hid hdr
      have kg := Lib.hid (impl_OrdInBaseN x (2 + (i : Int)) wr)
      have hbi : (2 + (i : Int)) = (i : Int) + 2 := by omega
      rw [hbi] at kg
      have hcs := T.baseRow_cases x ((i : Int) + 2)
      have Hstop := Lib.hid (fun h => T.goodOrds_stop (x := x) (b := (i : Int) + 2) (xs := run.drop (i + 1)) h)
      have Hgoo := Lib.hid (fun h => T.goodOrds_go (x := x) (b := (i : Int) + 2) (xs := run.drop (i + 1)) h)
      have Henc := Lib.hid (fun h => T.baseRow_enc (x := x) (b := (i : Int) + 2) h)
      rw [← hbi] at kg
      obtain ⟨r, hr⟩ : ∃ r, r = T.baseRow x ((i : Int) + 2) := ⟨_, rfl⟩
      rw [hbi] at kg
      rw [← hr] at kg hcs Hstop Hgoo Henc
      rw [← hbi] at kg
      clear hir hx hdr hbi hr
      rcases hcs with rfl | ⟨hv, hl⟩
      · have hfin : ∀ wz, wz.ownsRow w.heap.size 22 1 (.slice a i c) i vs → RowsT w.heap.size wz vs done → Blocks wz.heap.size vs → Below w.heap.size w wz → GoPostI w (T.goodOrds run 2) (.returned (.slice a i c)) wz :=
          fun wz h1 h2 h3 h4 => GoL.done h1 h2 h3 h4 Hd.out Hgo.out (by rw [Hdr.out]; exact Hstop.out rfl)
        have Hfin := Lib.hid hfin
        clear hfin
        go_wp2_with fail
        refine (kg.out).mono ?_
        rintro ee w2 ⟨aN, cN, rfl, hnn, _, hb2⟩
        obtain ⟨rfl, rfl⟩ := hnn rfl
        have hf2 := Hfin.out w2 (ownsRow_below' Ho.out hb2) (HR.out.below hb2) ⟨fun i' g' n' c' h => Nat.lt_of_lt_of_le (HB.out.1 i' g' n' c' h) hb2.size, HB.out.2⟩ (Hb.out.trans (hb2.mono hws))
        have Hf2 := Lib.hid hf2
        have he1 := eql_nil_yes w2
        clear hb2 hf2 hnn
        go_wp2_with fail
        go_ret
        exact Hf2.out
      · have hrne : r ≠ [] := fun h => by rw [h] at hl; simp at hl
        obtain ⟨hrg, henc, _⟩ := Henc.out hrne
        have hgo2 := Hgoo.out hrne
        obtain ⟨u, hu⟩ : ∃ u, u = T.ordB ((i : Int) + 2).toNat x.toNat := ⟨_, rfl⟩
        rw [← hu] at henc hgo2
        have Hnx := Lib.hid (show T.goodOrds run 2 = (done ++ [u]) ++ T.goodOrds (run.drop (i + 1)) (((i + 1 : Nat) : Int) + 2) by
          rw [Hgo.out, Hdr.out, hgo2, List.append_assoc, List.singleton_append, show (((i + 1 : Nat) : Int) + 2) = (i : Int) + 2 + 1 by omega])
        subst henc
        obtain ⟨ln, hln⟩ : ∃ ln, ln = u.enc.length := ⟨_, rfl⟩
        unfold IntPostN at kg
        rw [← hln] at kg hl
        have HLn := Lib.hid hln
        have hi60 : i < 60 := by omega
        clear hv hrne hrg hgo2 hu hln
        go_wp2_with fail
        refine (kg.out).mono ?_
        rintro ee w2 ⟨aN, cN, rfl, _, hoN, hb2⟩
        obtain ⟨g, c', hv⟩ := Joins.ownsRow_form hoN hl
        simp only [Value.slice.injEq] at hv
        obtain ⟨rfl, _, rfl⟩ := hv
        have HoN := Lib.hid hoN
        have Ho2 := Lib.hid (ownsRow_below' Ho.out hb2)
        have HR2 := Lib.hid (HR.out.below hb2)
        have Hrn2 := Lib.hid (ownsRow_below' Hrn.out hb2)
        have Hb2 := Lib.hid (Hb.out.trans (hb2.mono hws))
        have hw2 := Hb2.out.size
        have HB2 := Lib.hid (show Blocks w2.heap.size vs from ⟨fun i' g' n' c' h => Nat.lt_of_lt_of_le (HB.out.1 i' g' n' c' h) hb2.size, HB.out.2⟩)
        have he1 := eql_nil_no w2 g ln cN
        clear hoN hb2
        go_wp2_with (first
          | (at_builtin; refine wpList_append_own_at _ rfl (.tmp 21) (.tmp 23) 34 rfl w.heap.size 22 j0 (.slice none 0 0) 1 24 Try.underlying34 hj hy0 hy1 hy2 rfl (by decide) _ i vs rfl (Ho2.out.alloc _) ⟨w2.heap.size, 0, none⟩ 1 1 [.slice (some ⟨g, 0, none⟩) ln cN] rfl rfl (cell_one_new _ _ _) (slice_one _ _ _) (by unfold maxLen; omega) (by omega) (by simp; omega) ?_; intro v3 w3 ho3 hg3 _ _; obtain ⟨a3, c3, rfl⟩ := own_shape ho3))
        have hfin := GoL.next Ho2.out HR2.out HB2.out Hrn2.out Hb2.out hgk Hd.out Hnx.out HLn.out wr.heap.size HB.out.1 hws HoN.out ho3 hg3
        have Hfin := Lib.hid hfin
        clear ho3 hg3 hfin
        go_wp2_with fail
        go_roundg t
        case measure => omega
        case rel => exact Hfin.out
    · have hfin := GoL.done Ho.out HR.out HB.out Hb.out Hd.out Hgo.out (by rw [List.drop_eq_nil_of_le (by rw [← HL.out]; omega)]; rfl)
      have Hfin := Lib.hid hfin
      clear hfin
      go_wp2_with fail
      go_ret
      exact Hfin.out

set_option maxHeartbeats 2000000 in
theorem spec_GoodsteinOrds (n : Int) (w : World) (hn0 : -9223372036854775808 ≤ n) (hn1 : n ≤ 9223372036854775807) :
    Calls Try.prog 29 #[.int .i64 n] w (GoPost w (T.goodOrds (T.goodRun n) 2)) := by
  obtain ⟨j0, hj, hy0, hy1, hy2⟩ := info_parts info_ints
  have hL0 : (w.alloc (.cells #[] 22)).ownsRow w.heap.size 22 1 (.slice (some ⟨w.heap.size, 0, none⟩) 0 0) 0 [] := World.ownsRow_lit w #[] 0 (Nat.le_refl _) (by simp [maxLen]) rfl
  have HL0 := Lib.hid hL0
  have HLb := Lib.hid ((Below.refl w.heap.size w).alloc (Nat.le_refl _) (.cells #[] 22))
  obtain ⟨wl, hwl⟩ : ∃ wl, wl = w.alloc (.cells #[] 22) := ⟨_, rfl⟩
  rw [← hwl] at HL0 HLb
  have k1 := Lib.hid (spec_GoodsteinRun n wl hn0 hn1)
  have hcnt := T.goodRun_cnt n
  have hmem := Lib.hid (fun x => T.goodRun_mem (n := n) (x := x))
  obtain ⟨run, hrun⟩ : ∃ run, run = T.goodRun n := ⟨_, rfl⟩
  rw [← hrun] at k1 hcnt hmem ⊢
  obtain ⟨L, hL⟩ : ∃ L, L = run.length := ⟨_, rfl⟩
  unfold IntPost at k1
  rw [← hL] at k1 hcnt
  have HL := Lib.hid hL
  have hwls := HLb.out.size
  clear hrun hL hL0
  go_enter Try.func29, Try.ntmps29
  go_upto_region 2 with fail
  rw [← hwl]
  clear hwl
  go_wp2_with fail
  refine (k1.out).mono ?_
  rintro ee w1 ⟨ar, cr, rfl, ho1, hb1⟩
  have hst : GoL w run ar L cr L (.slice (some ⟨w.heap.size, 0, none⟩) 0 0) (.int .i64 0) w1 :=
    ⟨0, _, 0, [], [], rfl, rfl, rfl, rfl, rfl, ownsRow_below' HL0.out hb1, RowsT.nil _ _, Blocks.nil _, Joins.ownsRow_le ho1 hwls, HLb.out.trans (hb1.mono hwls)⟩
  have Hst := Lib.hid hst
  clear ho1 hb1 hst
  go_wp2_with fail
  go_loopg [3, 5] L (fun gk v3 v5 wr => GoL w run ar L cr gk v3 v5 wr)
  case atStart => exact Hst.out
  case round =>
    obtain ⟨i, a, c, vs, done, rfl, hgk, rfl, hd, hgo, ho, hR, hB, hrn, hb⟩ := hrel
    have Hd := Lib.hid hd
    have Hgo := Lib.hid hgo
    have Ho := Lib.hid ho
    have HR := Lib.hid hR
    have HB := Lib.hid hB
    have Hrn := Lib.hid hrn
    have Hb := Lib.hid hb
    have hws := hb.size
    clear hd hgo ho hR hB hrn hb
    by_cases hlt : i < L
    · obtain ⟨t, ht⟩ : ∃ t, gk = t + 1 := ⟨gk - 1, by omega⟩
      subst ht
      obtain ⟨gr, c', hv⟩ := Joins.ownsRow_form Hrn.out (by omega)
      simp only [Value.slice.injEq] at hv
      obtain ⟨rfl, _, rfl⟩ := hv
      have hgr : gr < wr.heap.size := (Hrn.out.lt gr rfl).2
      have hir : i < run.length := by rw [← HL.out]; exact hlt
      obtain ⟨x, hx⟩ : ∃ x, x = run[i] := ⟨_, rfl⟩
      have hx9 := hmem.out x (by rw [hx]; exact List.getElem_mem hir)
      have hdr : run.drop i = x :: run.drop (i + 1) := by rw [hx]; exact List.drop_eq_getElem_cons hir
      have y0 : wr.cell? ⟨gr, i, none⟩ = some (.int .i64 x) := (Hrn.out.cellAt i (by omega)).trans (by rw [ints, List.getElem?_map, List.getElem?_eq_getElem hir, ← hx]; rfl)
      have Hdr := Lib.hid hdr
      have kg := Lib.hid (spec_OrdInBase x ((i : Int) + 2) wr (by omega) (by omega) (by omega) (by omega))
      have hcs := T.baseRow_cases x ((i : Int) + 2)
      have Hstop := Lib.hid (fun h => T.goodOrds_stop (x := x) (b := (i : Int) + 2) (xs := run.drop (i + 1)) h)
      have Hgoo := Lib.hid (fun h => T.goodOrds_go (x := x) (b := (i : Int) + 2) (xs := run.drop (i + 1)) h)
      have Henc := Lib.hid (fun h => T.baseRow_enc (x := x) (b := (i : Int) + 2) h)
      obtain ⟨r, hr⟩ : ∃ r, r = T.baseRow x ((i : Int) + 2) := ⟨_, rfl⟩
      rw [← hr] at kg hcs Hstop Hgoo Henc
      have hi60 : i < 60 := by omega
      clear hir hx hdr hr hx9
      rcases hcs with rfl | ⟨hv, hl⟩
      · have hfin : ∀ wz, wz.ownsRow w.heap.size 22 1 (.slice a i c) i vs → RowsT w.heap.size wz vs done → Blocks wz.heap.size vs → Below w.heap.size w wz → GoPostI w (T.goodOrds run 2) (.returned (.slice a i c)) wz :=
          fun wz h1 h2 h3 h4 => GoL.done h1 h2 h3 h4 Hd.out Hgo.out (by rw [Hdr.out]; exact Hstop.out rfl)
        have Hfin := Lib.hid hfin
        clear hfin
        go_wp2_with fail
        refine (kg.out).mono ?_
        rintro ee w2 ⟨aN, cN, rfl, _, hb2⟩
        have hf2 := (Hfin.out w2 (ownsRow_below' Ho.out hb2) (HR.out.below hb2) ⟨fun i' g' n' c' h => Nat.lt_of_lt_of_le (HB.out.1 i' g' n' c' h) hb2.size, HB.out.2⟩ (Hb.out.trans (hb2.mono hws))).weak
        have Hf2 := Lib.hid hf2
        clear hb2 hf2
        go_wp2_with fail
        go_ret
        exact Hf2.out
      · have hrne : r ≠ [] := fun h => by rw [h] at hl; simp at hl
        obtain ⟨hrg, henc, hvl⟩ := Henc.out hrne
        have hgo2 := Hgoo.out hrne
        obtain ⟨u, hu⟩ : ∃ u, u = T.ordB ((i : Int) + 2).toNat x.toNat := ⟨_, rfl⟩
        have hkl : ∀ wx, Calls Try.prog 47 #[.int .i64 x, .int .i64 ((i : Int) + 2)] wx (IntPost wx u.enc) := fun wx => by
          have h1 := l4Ord_any (x.toNat + 1) x.toNat ((i : Int) + 2).toNat wx (Nat.lt_succ_self _) (by omega) (by omega) (by omega)
          rw [Int.toNat_of_nonneg hrg.1, Int.toNat_of_nonneg (show 0 ≤ (i : Int) + 2 by omega), ← hu] at h1
          exact h1
        rw [← hu] at henc hgo2
        have Hnx := Lib.hid (show T.goodOrds run 2 = (done ++ [u]) ++ T.goodOrds (run.drop (i + 1)) (((i + 1 : Nat) : Int) + 2) by
          rw [Hgo.out, Hdr.out, hgo2, List.append_assoc, List.singleton_append, show (((i + 1 : Nat) : Int) + 2) = (i : Int) + 2 + 1 by omega])
        subst henc
        obtain ⟨ln, hln⟩ : ∃ ln, ln = u.enc.length := ⟨_, rfl⟩
        have Hkl := Lib.hid hkl
        unfold IntPost at kg Hkl
        rw [← hln] at kg hl Hkl
        have HLn := Lib.hid hln
        have hlp : (0 : Int) < (ln : Int) := by omega
        clear hv hrne hrg hgo2 hu hln hkl hvl
        go_wp2_with fail
        refine (kg.out).mono ?_
        rintro ee w2 ⟨aM, cM, rfl, _, hb2⟩
        have y2 : w2.cell? ⟨gr, i, none⟩ = some (.int .i64 x) := (hb2.cell (p := ⟨gr, i, none⟩) hgr).trans y0
        have Hb2 := Lib.hid hb2
        have hw2 := hb2.size
        clear hb2
        go_wp2_with fail
        refine (Hkl.out w2).mono ?_
        rintro ee w3 ⟨aN, cN, rfl, hoN, hb3⟩
        obtain ⟨g, c', hv⟩ := Joins.ownsRow_form hoN hl
        simp only [Value.slice.injEq] at hv
        obtain ⟨rfl, _, rfl⟩ := hv
        have hb13 := Hb2.out.trans (hb3.mono hw2)
        have HoN := Lib.hid hoN
        have Ho2 := Lib.hid (ownsRow_below' Ho.out hb13)
        have HR2 := Lib.hid (HR.out.below hb13)
        have Hrn2 := Lib.hid (ownsRow_below' Hrn.out hb13)
        have Hb3 := Lib.hid (Hb.out.trans (hb13.mono hws))
        have hw3 := Hb3.out.size
        have HB2 := Lib.hid (show Blocks w3.heap.size vs from ⟨fun i' g' n' c' h => Nat.lt_of_lt_of_le (HB.out.1 i' g' n' c' h) hb13.size, HB.out.2⟩)
        have hBb : ∀ (i' g' n' c' : Nat), vs[i']? = some (.slice (some ⟨g', 0, none⟩) n' c') → g' < w2.heap.size := fun i' g' n' c' h => Nat.lt_of_lt_of_le (HB.out.1 i' g' n' c' h) hw2
        have HBb := Lib.hid hBb
        clear hoN hb3 hb13 hBb
        go_wp2_with (first
          | (at_builtin; refine wpList_append_own_at _ rfl (.tmp 26) (.tmp 34) 34 rfl w.heap.size 22 j0 (.slice none 0 0) 1 24 Try.underlying34 hj hy0 hy1 hy2 rfl (by decide) _ i vs rfl (Ho2.out.alloc _) ⟨w3.heap.size, 0, none⟩ 1 1 [.slice (some ⟨g, 0, none⟩) ln cN] rfl rfl (cell_one_new _ _ _) (slice_one _ _ _) (by unfold maxLen; omega) (by omega) (by simp; omega) ?_; intro v3 w4 ho3 hg3 _ _; obtain ⟨a3, c3, rfl⟩ := own_shape ho3))
        have hfin := GoL.next Ho2.out HR2.out HB2.out Hrn2.out Hb3.out hgk Hd.out Hnx.out HLn.out w2.heap.size HBb.out (by omega) HoN.out ho3 hg3
        have Hfin := Lib.hid hfin
        clear ho3 hg3 hfin
        go_wp2_with fail
        go_roundg t
        case measure => omega
        case rel => exact Hfin.out
    · have hfin := (GoL.done Ho.out HR.out HB.out Hb.out Hd.out Hgo.out (by rw [List.drop_eq_nil_of_le (by rw [← HL.out]; omega)]; rfl)).weak
      have Hfin := Lib.hid hfin
      clear hfin
      go_wp2_with fail
      go_ret
      exact Hfin.out

end Go.Proofs.Ytinbbeeplfdafaa
