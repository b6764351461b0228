/- OrdPower: the program's and the model's answers. -/
import Derived.Test.YtgcdbndnpcfcnaaMake
import Derived.Laws.AppendOwnNone
namespace Go.Proofs.Ytgcdbndnpcfcnaa
set_option maxRecDepth 100000
open Go.RowKit

theorem nf_power {t : T} (h : t.Nf) : (T.c 1 t .z).Nf := ⟨by omega, by omega, h, trivial, T.ok_z _⟩


/-- What append reads of a slice that came in. -/
theorem Sl.news {w : World} {x : Addr} {len cap : Nat} {xs : List Int} (h : Sl w (some x) len cap xs) : ∀ j u, (ints xs)[j]? = some u → w.cell? (x.add j) = some u := by
  intro j u hu
  have hj : j < xs.length := by
    have := (List.getElem?_eq_some_iff.1 hu).1
    rwa [ints_len] at this
  obtain ⟨b, off, h1, h2⟩ := h.2.2.2 (by rw [← h.1]; omega)
  obtain rfl := Option.some.inj h1
  exact h2.news j u hu

theorem Sl.alloc {w : World} {ao : Option Addr} {len cap : Nat} {xs : List Int} (h : Sl w ao len cap xs) (o : Obj) : Sl (w.alloc o) ao len cap xs :=
  h.below ((Below.refl _ _).alloc (Nat.le_refl _) o)

set_option maxHeartbeats 1000000 in
theorem spec_OrdPower (ao : Option Addr) (len cap : Nat) (xs : List Int) (w : World) (hb : len ≤ 1000000000000) (hnil : ao = none → len = 0 ∧ cap = 0) (h : Sl w ao len cap xs) :
    Calls Try.prog 78 #[.slice ao len cap] w fun e w' => ∃ a' c', e = .returned (.tuple #[.slice a' (T.powRow xs).length c', .bool (T.powOk xs)]) ∧
      w'.ownsRow w.heap.size 3 1 (.slice a' (T.powRow xs).length c') (T.powRow xs).length (ints (T.powRow xs)) ∧ Below w.heap.size w w' := by
  obtain ⟨i0, hi, hz0, hz1, hz2⟩ := info_parts info_int
  have H := Lib.hid h
  have H2 := Lib.hid (h.alloc (.cells #[.int .i64 1, .int .i64 1] 3))
  have hxl : (ints xs).length = len * 1 := by rw [ints_len, h.1]; omega
  have HX := Lib.hid hxl
  have how : (w.alloc (.cells #[.int .i64 1, .int .i64 1] 3)).ownsRow w.heap.size 3 1 (.slice (some ⟨w.heap.size, 0, none⟩) 2 2) 2 (ints [1, 1]) := World.ownsRow_lit w _ 2 (Nat.le_refl _) (by simp [maxLen]) rfl
  have HW := Lib.hid how
  have hlen : (1 :: 1 :: xs).length = 2 + len := by simp [h.1]; omega
  have Hlen := Lib.hid hlen
  -- behind the append, in either way
  have rest : ∀ a' c' w1, w1.ownsRow w.heap.size 3 1 (.slice a' (2 + len) c') (2 + len) (ints (1 :: 1 :: xs)) → Below w.heap.size w w1 → Sl w1 a' (2 + len) c' (1 :: 1 :: xs) := fun a' c' w1 h1 _ => Sl.of_own h1
  clear h hxl how hlen
  cases ao with
  | none =>
    obtain ⟨rfl, rfl⟩ := hnil rfl
    have hx : xs = [] := by have := H.out.1; simpa using this
    subst hx
    have hv : T.vldB [] = false := T.vldB_false.2 (by rintro ⟨_, t, h, _⟩; exact absurd h.symm (T.enc_ne t))
    have hr : T.powRow [] = [] := by rw [T.powRow, if_neg (by rw [hv]; simp)]
    have hr2 : T.powOk [] = false := by rw [T.powOk, hv]; rfl
    rw [hr, hr2]
    clear hr hr2
    go_enter Try.func78, Try.ntmps78
    have k1 := Lib.hid (fun w1 hw => spec_valid none 0 0 [] w1 (H.out.below hw) hv)
    go_wp2_with fail
    refine (k1.out _ ((Below.refl _ _).alloc (Nat.le_refl _) _)).mono ?_
    rintro ee w2 ⟨rfl, hb2⟩
    have Hb2 := Lib.hid (((Below.refl w.heap.size w).alloc (Nat.le_refl _) _).trans (hb2.mono (by simp)))
    clear hb2
    go_wp2_with fail
    go_ret2
    exact ⟨_, 0, rfl, World.ownsRow_lit w2 #[] 0 (by have := Hb2.out.size; omega) (by simp [maxLen]) rfl, Hb2.out.alloc (by have := Hb2.out.size; omega) _⟩
  | some x =>
    have hnews := H2.out.news
    have HN := Lib.hid hnews
    clear hnews
    go_enter Try.func78, Try.ntmps78
    go_wp2_with (first
      | (at_builtin; refine wpList_append_own _ rfl (.tmp 5) (.tmp 6) 23 rfl w.heap.size 3 i0 (.int .i64 0) 1 8 Try.underlying23 hi hz0 hz1 hz2 rfl (by decide) _ 2 (ints [1, 1]) rfl HW.out x len cap (ints xs) rfl HX.out HN.out (ints_one _) (by unfold maxLen; omega) (by omega) (by simp) ?_; intro v1 w1 ho1 hg1 _))
    have hb1 : Below w.heap.size w w1 := ((Below.refl _ _).alloc (Nat.le_refl _) _).grown hg1 (by simp) (fun k hk => (HW.out.lt k hk).1)
    have ho1' : w1.ownsRow w.heap.size 3 1 v1 (2 + len) (ints (1 :: 1 :: xs)) := ho1
    obtain ⟨a1, c1, rfl, _⟩ := own_form ho1'
    have Hb1 := Lib.hid hb1
    have Ho1 := Lib.hid ho1'
    clear hb1 ho1 hg1 ho1'
    rcases vld_tf xs with h1 | h1
    · have k1 := Lib.hid (spec_valid (some x) len cap xs w1 (H.out.below Hb1.out) h1)
      obtain ⟨t, ht1, ht2, ht3, ht4⟩ := T.vld_of h1
      have hct : 1 :: 1 :: xs = (T.c 1 t .z).enc := by rw [ht1]; simp [T.enc, T.body, T.cnt]
      have hr2 : T.powOk xs = T.vldB (1 :: 1 :: xs) := by rw [T.powOk, h1, ht4, ← hct]; rfl
      have hr : T.powRow xs = if T.vldB (1 :: 1 :: xs) = true then 1 :: 1 :: xs else [] := by rw [T.powRow, if_pos h1, ht4, T.fit, ← hct]
      have HR := Lib.hid hr
      have HR2 := Lib.hid hr2
      clear ht1 ht2 ht3 ht4 hct hr hr2
      go_wp2_with fail
      refine (k1.out).mono ?_
      rintro ee w2 ⟨rfl, hb2⟩
      have Hb2 := Lib.hid (Hb1.out.trans (hb2.mono Hb1.out.size))
      have Ho2 := Lib.hid (ownsRow_below' Ho1.out hb2)
      clear hb2
      rcases vld_tf (1 :: 1 :: xs) with h2 | h2
      · have k2 := Lib.hid (spec_valid a1 (2 + len) c1 (1 :: 1 :: xs) w2 (Sl.of_own Ho2.out) h2)
        have H2 := Lib.hid h2
        clear h2
        go_wp2_with fail
        refine (k2.out).mono ?_
        rintro ee w3 ⟨rfl, hb3⟩
        have Hb3 := Lib.hid (Hb2.out.trans (hb3.mono Hb2.out.size))
        have Ho3 := Lib.hid (ownsRow_below' Ho2.out hb3)
        clear hb3
        go_wp2_with fail
        go_ret2
        have e1 : T.powRow xs = 1 :: 1 :: xs := by rw [HR.out, if_pos H2.out]
        have e2 : (T.powRow xs).length = 2 + len := by rw [e1]; exact Hlen.out
        exact ⟨a1, c1, by rw [e2, HR2.out, H2.out]; rfl, by rw [e2, e1]; exact Ho3.out, Hb3.out⟩
      · have k2 := Lib.hid (spec_valid a1 (2 + len) c1 (1 :: 1 :: xs) w2 (Sl.of_own Ho2.out) h2)
        have H2 := Lib.hid h2
        clear h2
        go_wp2_with fail
        refine (k2.out).mono ?_
        rintro ee w3 ⟨rfl, hb3⟩
        have Hb3 := Lib.hid (Hb2.out.trans (hb3.mono Hb2.out.size))
        clear hb3
        go_wp2_with fail
        go_ret2
        have e1 : T.powRow xs = [] := by rw [HR.out, if_neg (by rw [H2.out]; simp)]
        exact ⟨_, 0, by rw [e1, HR2.out, H2.out]; rfl, by rw [e1]; exact World.ownsRow_lit w3 #[] 0 (by have := Hb3.out.size; omega) (by simp [maxLen]) rfl, Hb3.out.alloc (by have := Hb3.out.size; omega) _⟩
    · have k1 := Lib.hid (spec_valid (some x) len cap xs w1 (H.out.below Hb1.out) h1)
      have hr : T.powRow xs = [] := by rw [T.powRow, if_neg (by rw [h1]; simp)]
      have hr2 : T.powOk xs = false := by rw [T.powOk, h1]; rfl
      have HR := Lib.hid hr
      have HR2 := Lib.hid hr2
      clear h1 hr hr2
      go_wp2_with fail
      refine (k1.out).mono ?_
      rintro ee w2 ⟨rfl, hb2⟩
      have Hb2 := Lib.hid (Hb1.out.trans (hb2.mono Hb1.out.size))
      clear hb2
      go_wp2_with fail
      go_ret2
      exact ⟨_, 0, by rw [HR.out, HR2.out]; rfl, by rw [HR.out]; exact World.ownsRow_lit w2 #[] 0 (by have := Hb2.out.size; omega) (by simp [maxLen]) rfl, Hb2.out.alloc (by have := Hb2.out.size; omega) _⟩

end Go.Proofs.Ytgcdbndnpcfcnaa
