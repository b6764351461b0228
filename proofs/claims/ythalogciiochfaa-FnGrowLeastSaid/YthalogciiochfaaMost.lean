/- OrdMost: the program's and the model's answers. -/
import Derived.Test.YthalogciiochfaaBeforeS
import Derived.Test.YthalogciiochfaaSteps
import Derived.Test.YthalogciiochfaaTerms2
namespace Go.Proofs.Ythalogciiochfaa
set_option maxRecDepth 100000
open Go.RowKit

/-- The parts of a term among others. -/
theorem T.part_len {d e r t : T} {x : Int} (h : d.app (.c x e r) = t) : e.enc.length + 1 ≤ t.body.length ∧ e.body.length + 2 ≤ t.body.length := by
  have e1 := congrArg T.body h
  have e2 := congrArg List.length e1
  rw [T.app_body, T.body_c] at e2
  simp only [List.length_append, List.length_cons] at e2
  have e3 := T.enc_len e
  exact ⟨by omega, by omega⟩
theorem T.part_nf {d e r t : T} {x : Int} (h : d.app (.c x e r) = t) (hn : t.Nf) : 1 ≤ x ∧ x ≤ 9999 ∧ e.Nf := T.nf_last (h ▸ hn)

set_option maxHeartbeats 2000000 in
theorem mostOf_any (N : Nat) : ∀ (b off n cap : Nat) (t : T) (w : World), t.body.length < N → n = t.enc.length → n ≤ 1000000000 → n ≤ cap → cap ≤ maxLen → At w b off t.enc →
    Calls Try.prog 78 #[.slice (some ⟨b, off, none⟩) n cap] w fun e w' => e = .returned (.int .i64 t.most) ∧ Below w.heap.size w w' := by
  induction N with
  | zero => intro b off n cap t w h; omega
  | succ N ih =>
    intro b off n cap t w hN hn hb hc hm hat
    have IH := Lib.hid ih
    have HA := Lib.hid hat
    have Hn := Lib.hid hn
    have HN := Lib.hid hN
    have kt := Lib.hid (termsOf_any b off n cap t.enc t w hn.symm (by omega) hc hm hat rfl)
    clear ih hN hn hat
    go_enter Try.func78, Try.ntmps78
    go_wp2_with fail
    refine (kt.out).mono ?_
    rintro ee w1 ⟨cs, rfl, ho, hT, hb1⟩
    obtain ⟨cn, hcn⟩ : ∃ cn, cn = t.cnt := ⟨_, rfl⟩
    rw [← hcn] at ho ⊢
    have hcb : cn ≤ 1000000000 := by have := T.cnt_le t; have := T.enc_len t; have := Hn.out; omega
    obtain ⟨g, hg⟩ : ∃ g, g = w.heap.size := ⟨_, rfl⟩
    rw [← hg] at ho ⊢
    have Hcn := Lib.hid hcn
    have Hg := Lib.hid hg
    have Hb1 := Lib.hid hb1
    have Ho := Lib.hid ho
    have HTc := Lib.hid hT
    clear hcn hg hb1 ho hT
    go_wp2_with fail
    go_loopw [3, 9] (fun v2 v8 wr => ∃ (i : Nat) (d u : T), i ≤ cn ∧ Hid (d.app u = t ∧ d.cnt = i ∧ i + u.cnt = cn) ∧ v8 = .int .i64 i ∧ v2 = .int .i64 d.most ∧ Below w1.heap.size w1 wr) (fun _ i _ => cn - (intOf i).toNat)
    case atStart => exact ⟨0, .z, t, Nat.zero_le _, ⟨rfl, rfl, by have := Hcn.out; omega⟩, rfl, rfl, Below.refl _ _⟩
    case round =>
      obtain ⟨i, d, u, hi, HU, rfl, rfl, hbr⟩ := hrel
      obtain ⟨h1, h2, h3⟩ := HU.out
      have hsr := hbr.size
      by_cases hlt : i < cn
      · obtain ⟨x, e, r, rfl⟩ : ∃ x e r, u = .c x e r := T.cnt_pos (by omega)
        obtain ⟨be, oe, ce, p1, p2, p3, p4, p5⟩ := HTc.out.pick h1 h2
        have hg1 : g < w1.heap.size := (Ho.out.lt g rfl).2
        have y0 : wr.cell? ⟨g, i * 2, none⟩ = some (.int .i64 x) := (hbr.cell (p := ⟨g, i * 2, none⟩) hg1).trans ((Ho.out.cellAt (i * 2) (by omega)).trans (by rw [Nat.mul_comm]; exact p1))
        have y1 : wr.cell? ⟨g, i * 2 + 1, none⟩ = some (.slice (some ⟨be, oe, none⟩) e.enc.length ce) := (hbr.cell (p := ⟨g, i * 2 + 1, none⟩) hg1).trans ((Ho.out.cellAt (i * 2 + 1) (by omega)).trans (by rw [Nat.mul_comm]; exact p2))
        have hpl := T.part_len h1
        obtain ⟨W, hW⟩ : ∃ W, W = wr.alloc (.cells #[.int .i64 x, .slice (some ⟨be, oe, none⟩) e.enc.length ce] 63) := ⟨_, rfl⟩
        have hbW : Below w1.heap.size w1 W := by rw [hW]; exact hbr.alloc hsr _
        have hatW : At W be oe e.enc := p3.below hbW (p3.lt (T.enc_ne e))
        have z0 : W.cell? ⟨wr.heap.size, 0, none⟩ = some (.int .i64 x) := by rw [hW, Joins.cell_alloc_mark_at _ _ _ _ _ _ rfl]; rfl
        have z1 : W.cell? ⟨wr.heap.size, 1, none⟩ = some (.slice (some ⟨be, oe, none⟩) e.enc.length ce) := by rw [hW, Joins.cell_alloc_mark_at _ _ _ _ _ _ rfl]; rfl
        have hwl : wr.heap.size < W.heap.size := by rw [hW]; simp
        have hd0 : Below W.heap.size W W.drew := (Below.refl _ _).drew
        have kt2 := Lib.hid (IH.out be oe e.enc.length ce e W.drew (by have := HN.out; omega) rfl (by have := Hn.out; have := T.enc_len t; omega) p4 p5 (hatW.below hd0 (hatW.lt (T.enc_ne e))))
        have HW := Lib.hid hW.symm
        have HbW := Lib.hid hbW
        clear h1 h2 h3 p1 p2 p3 p4 p5 hbW hatW hbr hW hpl
        go_wp2_with fail
        rw [HW.out]
        go_region_held3 (fun w' => w'.cell? ⟨wr.heap.size, 0, none⟩ = some (.int .i64 x) ∧ w'.cell? ⟨wr.heap.size, 1, none⟩ = some (.slice (some ⟨be, oe, none⟩) e.enc.length ce)) (first | go_keep | exact ⟨kS0, kS1⟩)
          ((first
            | (go_at_call 78; (with_reducible refine (kt2.out).mono ?_); rintro ee w2 ⟨rfl, hb2⟩; have hb2' : Below W.heap.size W w2 := hd0.trans hb2; have kS0 := (hb2'.cell (p := ⟨wr.heap.size, 0, none⟩) hwl).trans z0; have kS1 := (hb2'.cell (p := ⟨wr.heap.size, 1, none⟩) hwl).trans z1)
            | fail))
        have hbA := HbW.out.trans (hb2'.mono HbW.out.size)
        have HbA := Lib.hid hbA
        clear hb2 hbA hb2' kS0 kS1
        go_wp2_with fail
        go_roundw
        case rel =>
          obtain ⟨h1, h2, h3⟩ := HU.out
          refine ⟨i + 1, d.app (.c x e .z), r, by omega, ⟨by rw [T.app_assoc]; exact h1, by rw [T.app_cnt, h2]; rfl, by simp only [T.cnt] at h3; omega⟩, by go_num, ?_, HbA.out⟩
          rw [T.most_snoc]
          congr 1; repeat (split <;> try omega)
        case measure => simp [intOf]; omega
      · have hu : u = .z := T.cnt_zero (by omega)
        subst hu
        have hdt : d = t := by rw [T.app_z] at h1; exact h1
        subst hdt
        clear h1 h2 h3
        go_wp2_with fail
        go_ret
        exact ⟨rfl, by have := Hb1.out.trans (hbr.mono Hb1.out.size); exact this⟩

theorem impl_OrdMost (ao : Option Addr) (len cap : Nat) (xs : List Int) (w : World) (h : Sl w ao len cap xs) :
    Calls Try.prog 45 #[.slice ao len cap] w fun e w' => e = .returned (.int .i64 (T.mostRow xs)) ∧ Below w.heap.size w w' := by
  rcases vld_tf xs with h1 | h1
  · have k1 := Lib.hid (impl_valid ao len cap xs w h h1)
    obtain ⟨b, off, t, rfl, rfl, hs, hos, hat, hn, hl, hp, hc, hm⟩ := h.valid h1
    have hr : T.mostRow t.enc = t.most := by rw [T.mostRow, if_pos h1, hos]
    rw [hr]
    have HA := Lib.hid hat
    have HN := Lib.hid hn
    clear h1 hos hs hat hn hr
    go_enter Try.func45, Try.ntmps45
    go_wp2_with fail
    refine (k1.out).mono ?_
    rintro ee w1 ⟨rfl, hb1⟩
    have Hb1 := Lib.hid hb1
    have k2 := Lib.hid (mostOf_any (t.body.length + 1) b off len cap t w1 (by omega) HN.out (by omega) hc hm (HA.out.below hb1 (HA.out.lt (T.enc_ne t))))
    clear hb1
    go_wp2_with fail
    refine (k2.out).mono ?_
    rintro ee w2 ⟨rfl, hb2⟩
    have Hb2 := Lib.hid (Hb1.out.trans (hb2.mono Hb1.out.size))
    clear hb2
    go_wp2_with fail
    go_ret
    exact ⟨rfl, Hb2.out⟩
  · have k1 := Lib.hid (impl_valid ao len cap xs w h h1)
    have hr : T.mostRow xs = -1 := by rw [T.mostRow, if_neg (by rw [h1]; simp)]
    rw [hr]
    clear h1 hr
    go_enter Try.func45, Try.ntmps45
    go_wp2_with fail
    refine (k1.out).mono ?_
    rintro ee w1 ⟨rfl, hb1⟩
    have Hb1 := Lib.hid hb1
    clear hb1
    go_wp2_with fail
    go_ret
    exact ⟨rfl, Hb1.out⟩
end Go.Proofs.Ythalogciiochfaa
