/- Relations: a step from a set, and who leads nowhere in it, by the program. -/
import Derived.Test.YtagdeifalkenhaaDoorRelC
import Derived.Shelf.RegionOpen
namespace Go.Proofs.YtagdeifalkenhaaDoor
set_option maxRecDepth 100000
open Go.RowKit Go.Shelf

attribute [local go_sem] Oper.semAt_some

/-- A turn of what is no cells, from the block n on. -/
theorem belowPut {n : Nat} {w : World} (hn : n ≤ w.heap.size) (W : World) (l : Nat) (o o' : Obj) (hl : w.heap.size ≤ l) (_ : W.heap[l]? = some o) (_ : o.isCells = false) (_ : o.isWalk = false) : Below n W (W.putObj l o') := by
  have hg := grownBy_putObj' W l o'
  exact ⟨hg.os, hg.tape, hg.output, hg.size, fun b hb => World.putObj_heap_other (by omega)⟩
theorem Boxed.belowK {w w' : World} {B n : Nat} {t : TypeId} {v : Value} (h : Boxed w B t v) (hb : Below n w w') (hB : B < n) : Boxed w' B t v := (hb.block B hB).trans h


theorem nowh_out {W : World} {n : Nat} {tmps : Array Value} {v : Value} (ht : tmps[4]?.getD undef = v) {R : Ending → World → Prop} (hR : R (.returned v) W) :
    LeavesInM Fence.wide n Tryd.prog Tryd.f37 tmps R [] .returning W := by
  refine ⟨_, ?_, hR⟩
  simp [results, Tryd.f37, go_sem, ht]
def NwI (w : World) (xs : List Int) (s m : Nat) (ao : Option Addr) (n c : Nat) (pre : List (Pt m)) (W : World) : Prop :=
  Boxed W w.heap.size 23 (.slice ao n c) ∧ Boxed W (w.heap.size + 1) 3 (.int .i64 s) ∧ Boxed W (w.heap.size + 1 + 1) 3 (.int .i64 (nowhs xs s (pre.map (·.1)) : Nat)) ∧ Below w.heap.size w W

set_option maxRecDepth 100000 in
set_option maxHeartbeats 2000000 in
theorem leadNowhereIn_any (ao : Option Addr) (n c : Nat) (xs : List Int) (s : Nat) (w : World) (h : Sl w ao n c xs) (hR : RelOk xs) (hs : s < 2 ^ n) (hT : Tab w) :
    Calls Tryd.prog 37 #[.slice ao n c, .int .i64 s] w fun e w' => e = .returned (.int .i64 (nowh xs s : Nat)) ∧ Below w.heap.size w w' := by
  have hl := h.1
  have hn12 : n ≤ 12 := by have := hR.1.2; omega
  obtain ⟨ps, hps⟩ := pts_pt hn12 hs
  obtain ⟨b, off, rfl, hat⟩ := h.2.2.2 (by have := hR.1.1; omega)
  have hbl : b < w.heap.size := hat.lt (by intro h9; rw [h9] at hl; simp at hl; have := hR.1.1; rw [h9] at this; simp at this)
  have htl := hT.lt
  have hst : nowh xs s = nowhs xs s (ps.map (·.1)) := by rw [hps]; rfl
  rw [hst]
  have HR := Lib.hid hR
  have HT := Lib.hid hT
  have HA := Lib.hid hat
  have HL := Lib.hid hl
  clear h hat hR hT hst
  refine (callsIn_wide (n := 20)).1 ?_
  refine callsIn_of_wp_marks Tryd.func37 rfl trivial ?_ rfl
  simp only [Tryd.ntmps37, List.size_toArray, List.length_cons, List.length_nil, Nat.reduceAdd, Nat.reduceSub, Array.replicate_succ, Array.replicate_zero, List.push_toArray, List.append_toArray, List.nil_append, List.cons_append]
  gi_wp2
  refine ⟨trivial, (callsIn_wide.2 (pointsIn_any s _)).mono ?_⟩
  rintro ee ws ⟨rfl, rfl⟩
  gi_wp2
  obtain ⟨W0, hW0⟩ : ∃ W0, W0 = (((w.alloc (.cells #[.slice (some ⟨b, off, none⟩) n c] 23)).alloc (.cells #[.int .i64 s] 3)).alloc (.cells #[.int .i64 0] 3)).alloc (.cells #[.int .i64 s] 3) := ⟨_, rfl⟩
  rw [← hW0]
  have hb0 : Below w.heap.size w W0 := by rw [hW0]; exact ((((Below.refl _ _).alloc (Nat.le_refl _) _).alloc (by simp) _).alloc (by simp; omega) _).alloc (by simp; omega) _
  have hs0 : W0.heap.size = w.heap.size + 4 := by rw [hW0]; simp
  have e2 : Boxed W0 w.heap.size 23 (.slice (some ⟨b, off, none⟩) n c) := by rw [hW0]; exact (((Boxed.new w _ _).alloc _).alloc _).alloc _
  have e3 : Boxed W0 (w.heap.size + 1) 3 (.int .i64 s) := by
    have h9 := Boxed.new (w.alloc (.cells #[.slice (some ⟨b, off, none⟩) n c] 23)) 3 (.int .i64 s)
    rw [World.size_alloc] at h9
    rw [hW0]; exact (h9.alloc _).alloc _
  have e5 : Boxed W0 (w.heap.size + 1 + 1) 3 (.int .i64 0) := by
    have h9 := Boxed.new ((w.alloc (.cells #[.slice (some ⟨b, off, none⟩) n c] 23)).alloc (.cells #[.int .i64 s] 3)) 3 (.int .i64 0)
    rw [World.size_alloc, World.size_alloc] at h9
    rw [hW0]; exact h9.alloc _
  have es : Boxed W0 (w.heap.size + 1 + 1 + 1) 3 (.int .i64 s) := by
    have h9 := Boxed.new (((w.alloc (.cells #[.slice (some ⟨b, off, none⟩) n c] 23)).alloc (.cells #[.int .i64 s] 3)).alloc (.cells #[.int .i64 0] 3)) 3 (.int .i64 s)
    rw [World.size_alloc, World.size_alloc, World.size_alloc] at h9
    rw [hW0]; exact h9
  have hst := points1_stops 19 n s (w.heap.size + 1 + 1 + 1) w.heap.size ps W0 hn12 hs hps (by omega) htl (HT.out.below hb0 htl) (by omega) es.cell
  have h00 : NwI w xs s n (some ⟨b, off, none⟩) n c [] W0 := ⟨e2, e3, e5, hb0⟩
  have hpsb : ∀ k ∈ ps.map (·.1), k < 12 := fun k hk => by
    obtain ⟨x, _, rfl⟩ := List.mem_map.1 hk
    have := x.2; omega
  clear hW0 e2 e3 e5 es hps
  refine wpIn_rangeFunc_ownG rfl (by omega) (gf := 55) (lb := #[.pointer (some ⟨w.heap.size + 1 + 1 + 1, 0, none⟩)]) rfl trivial (enters_of Tryd.func55 (by kernel_rfl) rfl)
    hst Below.trans (belowPut (by omega)) (Below.refl _ _) (fun _ => rfl) (NwI w xs s n (some ⟨b, off, none⟩) n c) (fun _ _ _ => False) ?hI ?hIx h00
    (fun x => { tmps := #[.slice (some ⟨b, off, none⟩) n c, .int .i64 s, .pointer (some ⟨w.heap.size, 0, none⟩), .pointer (some ⟨w.heap.size + 1, 0, none⟩), .int .i64 0, .pointer (some ⟨w.heap.size + 1 + 1, 0, none⟩), .int .i64 x.1, .int .i64 s, .func (.func 55) #[] #[.pointer (some ⟨w.heap.size + 1 + 1 + 1, 0, none⟩)], .int .i64 x.1, undef, undef, undef, undef, undef, undef, undef, undef, undef, undef, undef, undef], defers := [] }) ?assign ?body ?done ?stop
  case hI =>
    rintro s' A C row ⟨hx1, hx2, hx3, hb⟩ hg hr
    have hne : ∀ k cs t f, A.heap[k]? = some (.cells cs t f) → row ≠ some k := fun k cs t f hk he => by
      obtain ⟨_, o, ho, hc⟩ := hr k he
      rw [hk] at ho
      cases ho
      cases hc
    exact ⟨hx1.kept hg (fun he => hne _ _ _ _ hx1 he.symm), hx2.kept hg (fun he => hne _ _ _ _ hx2 he.symm), hx3.kept hg (fun he => hne _ _ _ _ hx3 he.symm), hb.grown hg hb.size (fun k e => by have := (hr k e).1; omega)⟩
  case hIx => exact fun _ _ _ _ _ h _ _ => h
  case assign =>
    intro l' x W' K hK
    gi_wp2
    exact hK
  case body =>
    rintro l pre x Wr ⟨hx1, hx2, hx3, hb⟩ _
    have hxn : x.1 < n := x.2
    have z1 := hx1.cell
    have z2 := hx2.cell
    have z3 := hx3.cell
    have f3 := hx3.frozen
    have y0 : Wr.cell? ⟨b, off + x.1, none⟩ = some (.int .i64 (rw' xs x.1 : Nat)) := by
      have h9 := (HA.out.below hb hbl) x.1 (by rw [HL.out]; exact hxn)
      rw [h9, HR.out.row_int (by rw [HL.out]; exact hxn)]
    have hr1 := HR.out.row_lt x.1
    have hs4 : s < 4096 := Nat.lt_of_lt_of_le hs (two_le hn12)
    have hand := and_i64 (rw' xs x.1) s (by omega) (by omega)
    have hsn : nowhs xs s ((pre ++ [x]).map (·.1)) = if rw' xs x.1 &&& s = 0 then nowhs xs s (pre.map (·.1)) ||| 2 ^ x.1 else nowhs xs s (pre.map (·.1)) := by rw [List.map_append, List.map_cons, List.map_nil, nowhs_snoc]
    have hr2 : nowhs xs s (pre.map (·.1)) < 2 ^ 12 := nowhs_lt (fun k hk => by
      obtain ⟨x', _, rfl⟩ := List.mem_map.1 hk
      have := x'.2; omega)
    have h2p : 2 ^ x.1 ≤ 4096 := two_le (by omega)
    have ho := or_i64 (nowhs xs s (pre.map (·.1))) (2 ^ x.1) (by omega) (by omega)
    have ks := Lib.hid (fun wx => setOf_any x.1 (by omega) wx)
    obtain ⟨a, ha⟩ : ∃ a, a = nowhs xs s (pre.map (·.1)) := ⟨_, rfl⟩
    obtain ⟨q, hq⟩ : ∃ q, q = 2 ^ x.1 := ⟨_, rfl⟩
    obtain ⟨o, hoo⟩ : ∃ o, o = a ||| q := ⟨_, rfl⟩
    obtain ⟨d, hd⟩ : ∃ d, d = rw' xs x.1 &&& s := ⟨_, rfl⟩
    obtain ⟨r, hr⟩ : ∃ r, r = rw' xs x.1 := ⟨_, rfl⟩
    rw [← ha] at z3 ho hsn
    rw [← hq] at ks ho hsn
    rw [← hoo] at ho hsn
    rw [← hd] at hand hsn
    rw [← hr] at y0 hand hr1
    have HX1 := Lib.hid hx1
    have HX2 := Lib.hid hx2
    have HX3 := Lib.hid hx3
    have HB := Lib.hid hb
    have Ha := Lib.hid ha
    have Hsn := Lib.hid hsn
    clear hx1 hx2 hx3 hb ha hr hoo hsn hr2 h2p hq hd hpsb
    gi_wp2
    gi_region
    all_goals
      by_cases hd0 : d = 0
      · have hz : ((d : Int) == 0) = true := by simp [hd0]
        have hsn2 := Hsn.out
        rw [if_pos hd0] at hsn2
        have Hsn2 := Lib.hid hsn2
        clear hd0 hsn2
        gi_wp2
        gi_region_with (refine ⟨trivial, ?_⟩; refine (CallsIn.inRound l (callsIn_wide.2 (ks.out _))).mono ?_; rintro ee wx ⟨rfl, rfl⟩)
        all_goals
          gi_wp2
          have hk := (KeepsOthers.setCell Wr ⟨w.heap.size + 1 + 1, 0, none⟩ (.int .i64 o)).from W0.heap.size
          have hbW : Below w.heap.size Wr (Wr.setCell ⟨w.heap.size + 1 + 1, 0, none⟩ (.int .i64 o)).drew.drew := ((Below.refl _ _).setCell (p := ⟨w.heap.size + 1 + 1, 0, none⟩) (by simp; omega) _).drew.drew
          refine ⟨⟨hk.size, hk.same⟩, hbW, HX1.out.other (by omega) _, HX2.out.other (by omega) _, ?_, HB.out.trans hbW⟩
          rw [Hsn2.out]
          exact HX3.out.set _
      · have hz : ((d : Int) == 0) = false := by simp [hd0]
        have hsn2 := Hsn.out
        rw [if_neg hd0] at hsn2
        have Hsn2 := Lib.hid hsn2
        clear hd0 hsn2
        gi_wp2
        refine ⟨(KeepsOthers.drew Wr).from _, Joins.below_draws _ _ _, HX1.out, HX2.out, ?_, HB.out.trans (Joins.below_draws _ _ _)⟩
        rw [Hsn2.out, Ha.out]
        exact HX3.out
  case done =>
    rintro D xs' Wd hD rfl ⟨hx1, hx2, hx3, hb⟩ hK
    have z2 := hx3.cell
    gi_wp2
    have g3 := grownBy_putObj' Wd D (.deferred none)
    refine ⟨by simp, .inl ⟨_, _, rfl, run_takeDeferred hK, ?_⟩⟩
    refine nowh_out rfl ⟨rfl, ?_⟩
    exact hb.grown g3 hb.size (fun k e => by cases e; omega)
  case stop => exact fun _ _ _ _ _ _ h _ => h.elim

end Go.Proofs.YtagdeifalkenhaaDoor
