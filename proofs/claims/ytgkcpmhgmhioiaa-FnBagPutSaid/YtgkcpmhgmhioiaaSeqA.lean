/- slices.AppendSeq over slices.Values. -/
import Derived.Test.YtgkcpmhgmhioiaaSeqV
import Derived.Deep.CutBlock
namespace Go.Proofs.Ytgkcpmhgmhioiaa
set_option maxRecDepth 100000
open Go.RowKit Go.Shelf

attribute [local go_sem] Oper.semAt_some

/-- What the caller keeps: the box holds a row that owns what has come. -/
def SqI (w : World) (pre : List Num) (W : World) : Prop :=
  ∃ a c, Boxed W w.heap.size 23 (.slice a pre.length c) ∧ W.ownsRow w.heap.size 3 1 (.slice a pre.length c) pre.length (ints (nums pre)) ∧ Below w.heap.size w W

theorem app_out {W : World} {n : Nat} {tmps : Array Value} {v : Value} (ht : tmps[4]?.getD undef = v) {R : Ending → World → Prop} (hR : R (.returned v) W) :
    LeavesInM Fence.wide n Try.prog Try.f94 tmps R [] .returning W := by
  refine ⟨_, ?_, hR⟩
  simp [results, Try.f94, go_sem, ht]
set_option maxRecDepth 100000 in
set_option maxHeartbeats 2000000 in
theorem appendSeq_any (bs : Nat) (ao : Option Addr) (len cap : Nat) (ns : List Num) (w : World) (hM : len ≤ 3000) (hbs : bs < w.heap.size) (hc1 : w.cell? ⟨bs, 0, none⟩ = some (.slice ao len cap)) (hsl : Sl w ao len cap (nums ns)) :
    Calls Try.prog 94 #[.slice none 0 0, .func (.func 91) #[] #[.pointer (some ⟨bs, 0, none⟩)]] w fun e w' =>
      ∃ v, e = .returned v ∧ w'.ownsRow w.heap.size 3 1 v len (ints (nums ns)) ∧ Below w.heap.size w w' := by
  obtain ⟨i0, hi, hz0, hz1, hz2⟩ := info_parts info_int
  refine (callsIn_wide (n := 20)).1 ?_
  refine callsIn_of_wp_marks Try.func94 rfl trivial ?_ rfl
  simp only [Try.ntmps94, List.size_toArray, List.length_cons, List.length_nil, Nat.reduceAdd, Nat.reduceSub, Array.replicate_succ, Array.replicate_zero, List.push_toArray, List.append_toArray, List.nil_append, List.cons_append]
  gi_wp2
  obtain ⟨W0, hW0⟩ : ∃ W0, W0 = w.alloc (.cells #[.slice none 0 0] 23) := ⟨_, rfl⟩
  rw [← hW0]
  have hb0 : Below w.heap.size w W0 := by rw [hW0]; exact (Below.refl _ _).alloc (Nat.le_refl _) _
  have hs0 : W0.heap.size = w.heap.size + 1 := by rw [hW0]; simp
  have hbx0 : Boxed W0 w.heap.size 23 (.slice none 0 0) := by rw [hW0]; exact Boxed.new w _ _
  have hst := values1_stops 19 ns len cap 0 0 w.heap.size bs ao W0 hM (by omega) ⟨hbs, .inr (Nat.zero_le _)⟩ ((hb0.cell (p := ⟨bs, 0, none⟩) hbs).trans hc1) (hsl.below hb0) (fun b off he h0 => by
    obtain ⟨b', off', he', hat⟩ := hsl.2.2.2 h0
    rw [he'] at he
    cases he
    exact ⟨hat.lt (by intro h9; have h8 := hsl.1; rw [h9] at h8; simp at h8; omega), .inr (Nat.zero_le _)⟩)
  have hln : ns.length = len := by have := hsl.1; rw [nums, List.length_map] at this; exact this
  have h00 : SqI w [] W0 := ⟨none, 0, hbx0, ⟨rfl, .inl ⟨rfl, rfl⟩⟩, hb0⟩
  clear hW0 hc1 hsl hbx0
  refine wpIn_rangeFunc_ownH rfl (by omega) (gf := 91) (lb := #[.pointer (some ⟨bs, 0, none⟩)]) rfl trivial (enters_of Try.func91 (by kernel_rfl) rfl)
    hst KL.trans (KL.put (by omega)) (Below.refl _ _) (fun _ => rfl) (SqI w) (fun _ _ _ => False) ?hI ?hIx h00
    (fun x a' _ => a' = { tmps := #[.slice none 0 0, .func (.func 91) #[] #[.pointer (some ⟨bs, 0, none⟩)], .pointer (some ⟨w.heap.size, 0, none⟩), undef, .slice none 0 0, .int .i64 x.1, .func (.func 91) #[] #[.pointer (some ⟨bs, 0, none⟩)], .int .i64 x.1, undef, undef, undef, undef, undef], defers := [] }) (fun _ _ => ownFrom_pure _ _) ?assign ?body ?done ?stop
  case hI =>
    rintro s A C row ⟨va, vc, hbx, hown, hb⟩ hg hr
    have hne : ∀ k cs t f, A.heap[k]? = some (.cells cs t f) → row ≠ some k := fun k cs t f hk he => by
      obtain ⟨_, o, ho, hc⟩ := hr k he
      rw [hk] at ho
      cases ho
      cases hc
    refine ⟨va, vc, hbx.kept hg (fun he => hne _ _ _ _ hbx he.symm), hown.kept hg ?_, ?_⟩
    · rcases hown.2 with ⟨h9, _⟩ | ⟨g, cap, cur, h9, _, hgb, _⟩
      · rw [h9]; exact .inl rfl
      · rw [h9]; exact .inr (fun e' => hne _ _ _ _ hgb e'.symm)
    · exact hb.grown hg hb.size (fun k e => by have := (hr k e).1; omega)
  case hIx => exact fun _ _ _ _ _ h _ _ => h
  case assign =>
    intro l' pre x W' K hi' hK
    gi_wp2
    exact hK _ W' (KeepsFrom.refl _ _) (KL.refl _ _ _ _) hi' rfl
  case body =>
    rintro l pre x a' Wr hl' ⟨r, hr⟩ ⟨va, vc, hbx, hown, hb⟩ rfl hp
    have z := hbx.cell
    have f := hbx.frozen
    have Hbx := Lib.hid hbx
    have Hown := Lib.hid hown
    have Hb := Lib.hid hb
    have hws := hb.size
    clear hbx hown hb
    gi_wp2_with (gi_at_builtin; go_loud (refine wpListIn_append_own _ rfl (.tmp 8) (.tmp 10) 23 rfl w.heap.size 3 i0 (.int .i64 0) 1 8 Try.underlying23 hi hz0 hz1 hz2 rfl (by decide) _ pre.length (ints (nums pre)) rfl (Hown.out.alloc _) ⟨Wr.heap.size, 0, none⟩ 1 1 [.int .i64 x.1] rfl rfl (cell_one_new _ _ _) (ints_oneCell _ [x.1]) (by unfold maxLen; omega) (by omega) (by simp; omega) ?_; intro v' w5 ho5 hg5 _; obtain ⟨a6, c6, rfl, _⟩ := own_form ho5; have hap := Boxed.appended Hbx.out (by decide) Hown.out hws (Nat.le_refl _) ho5 hg5; have z5 := hap.1.cell; have f5 := hap.1.frozen; have Hap := Lib.hid hap; have Ho5 := Lib.hid ho5))
    obtain ⟨-, q2, q3, q4, q5⟩ := Hap.out
    refine ⟨q4.from _, ⟨q5.size, fun b h1 h2 _ => q5.block b h1⟩, a6, c6, ?_, ?_, Hb.out.trans q5⟩
    · simpa using q2
    · simpa [nums, ints] using q3
  case done =>
    rintro D xs Wd hD rfl ⟨va, vc, hbx, hown, hb⟩ hK
    have z := hbx.cell
    have f := hbx.frozen
    gi_wp2
    have g3 := grownBy_putObj' Wd D (.deferred none)
    refine ⟨by simp, .inl ⟨_, _, rfl, run_takeDeferred hK, ?_⟩⟩
    refine app_out rfl ⟨_, rfl, ?_, ?_⟩
    · rw [← hln]
      exact ownsRow_putObj hown _ hK rfl
    · exact hb.grown g3 hb.size (fun k e => by cases e; omega)
  case stop => exact fun _ _ _ _ _ _ h _ => h.elim

end Go.Proofs.Ytgkcpmhgmhioiaa
