/- OrdPower: the program's and the model's answers. -/
import Derived.Test.YtlbaelehmoidpaaMake
import Derived.Laws.AppendOwnNone
namespace Go.Proofs.Ytlbaelehmoidpaa
set_option maxRecDepth 100000
open Go.RowKit

theorem nf_power {t : T} (h : t.Nf) : (T.c 1 t .z).Nf := ⟨by omega, by omega, h, trivial, T.ok_z _⟩

theorem impl_OrdPower (ao : Option Addr) (len cap : Nat) (xs : List Int) (w : World) (h : Sl w ao len cap xs) :
    Calls Try.prog 57 #[.slice ao len cap] w fun e w' => ∃ a' c', e = .returned (.tuple #[.slice a' (T.powRow xs).length c', .bool (T.powOk xs)]) ∧
      w'.ownsRow w.heap.size 3 1 (.slice a' (T.powRow xs).length c') (T.powRow xs).length (ints (T.powRow xs)) ∧ Below w.heap.size w w' := by
  rcases vld_tf xs with h1 | h1
  · have k1 := Lib.hid (impl_valid ao len cap xs w h h1)
    obtain ⟨b, off, t, rfl, rfl, hs, hos, hat, hn, hl, hp, hc, hm⟩ := h.valid h1
    have hr : T.powRow t.enc = T.fit (.c 1 t .z) := by rw [T.powRow, if_pos h1, hos]
    have hr2 : T.powOk t.enc = T.vldB (T.c 1 t .z).enc := by rw [T.powOk, h1, hos]; rfl
    rw [hr, hr2]
    have HA := Lib.hid hat
    have HN := Lib.hid hn
    have hcl : (T.c 1 t .z).enc.length ≤ 1000000000000 := by rw [T.enc_len, T.body_c]; simp [T.body]; omega
    have HCL := Lib.hid hcl
    clear h1 hos hs hat hn hr hr2 hcl
    go_enter Try.func57, Try.ntmps57
    go_wp2_with fail
    refine (k1.out).mono ?_
    rintro ee w1 ⟨rfl, hb1⟩
    have Hb1 := Lib.hid hb1
    clear hb1
    go_wp2_with fail
    have hT : Tm (w1.alloc (.cells #[.int .i64 1, .slice (some ⟨b, off, none⟩) len cap] 57)) (some ⟨w1.heap.size, 0, none⟩) 1 (.c 1 t .z) := by
      refine Tm.of_own (cap := 1) (B := w1.heap.size) (cs := [.int .i64 1, .slice (some ⟨b, off, none⟩) len cap]) (World.ownsRow_lit w1 #[.int .i64 1, .slice (some ⟨b, off, none⟩) len cap] 1 (Nat.le_refl _) (by simp [maxLen]) rfl) ?_ rfl
      have h2 := HA.out.below Hb1.out (HA.out.lt (T.enc_ne t))
      exact ⟨b, off, cap, [], by rw [← HN.out], h2.alloc (T.enc_ne t) _, by rw [← HN.out]; exact hc, hm, rfl⟩
    refine (fittingOrd_any _ 1 1 (.c 1 t .z) _ HCL.out hT).mono ?_
    rintro ee w2 ⟨a', c', rfl, ho, hb2⟩
    have hb3 : Below w1.heap.size w1 w2 := ((Below.refl _ _).alloc (Nat.le_refl _) _).trans (hb2.mono (by simp))
    have Hb2 := Lib.hid (Hb1.out.trans (hb3.mono Hb1.out.size))
    have Ho := Lib.hid (Joins.ownsRow_le (base' := w.heap.size) ho (by have := Hb1.out.size; simp; omega))
    clear hb2 hb3 ho hT
    go_wp2_with fail
    go_ret2
    exact ⟨a', c', rfl, Ho.out, Hb2.out⟩
  · have k1 := Lib.hid (impl_valid ao len cap xs w h h1)
    have hr : T.powRow xs = [] := by rw [T.powRow, if_neg (by rw [h1]; simp)]
    have hr2 : T.powOk xs = false := by rw [T.powOk, h1]; rfl
    rw [hr, hr2]
    clear h1 hr hr2
    go_enter Try.func57, Try.ntmps57
    go_wp2_with fail
    refine (k1.out).mono ?_
    rintro ee w1 ⟨rfl, hb1⟩
    have Hb1 := Lib.hid hb1
    clear hb1
    go_wp2_with fail
    go_ret2
    exact ⟨none, 0, rfl, World.ownsRow_nil _ _ _ _, Hb1.out⟩

/-- What append reads of a slice that came in. -/
theorem Sl.news {w : World} {x : Addr} {len cap : Nat} {xs : List Int} (h : Sl w (some x) len cap xs) : ∀ j u, (ints xs)[j]? = some u → w.cell? (x.add j) = some u := by
  intro j u hu
  have hj : j < xs.length := by
    have := (List.getElem?_eq_some_iff.1 hu).1
    rwa [ints_len] at this
  obtain ⟨b, off, h1, h2⟩ := h.2.2.2 (by rw [← h.1]; omega)
  obtain rfl := Option.some.inj h1
  exact h2.news j u hu

theorem Sl.alloc {w : World} {ao : Option Addr} {len cap : Nat} {xs : List Int} (h : Sl w ao len cap xs) (o : Obj) : Sl (w.alloc o) ao len cap xs :=
  h.below ((Below.refl _ _).alloc (Nat.le_refl _) o)


end Go.Proofs.Ytlbaelehmoidpaa
