/- The program's products: clones of terms, and an ordinal times a number. -/
import Derived.Test.YtaleaagnkfbhpabMul
import Derived.Test.YtaleaagnkfbhpabTwin
import Derived.Test.YtaleaagnkfbhpabAddJ
import Derived.Lib.SliceRun
namespace Go.Proofs.Ytaleaagnkfbhpab
open Go.RowKit

theorem Tz.news {w : World} {g n c : Nat} {t : T} {cs : List Value} (h : Tz w g n c t cs) : ∀ j u, cs[j]? = some u → w.cell? ((⟨g, 0, none⟩ : Addr).add j) = some u := by
  intro j u hj
  have hl := h.2.2.2.1.length
  have hjl := (List.getElem?_eq_some_iff.1 hj).1
  rw [Addr.add_lit, Nat.zero_add, h.2.2.2.2.2 j (by have := h.1; omega)]
  exact hj

theorem clone_any (g n c : Nat) (t : T) (cs : List Value) (w : World) (h : Tz w g n c t cs) (hp : 0 < n) (hb : n ≤ 10000) :
    Calls Try.prog 62 #[.slice (some ⟨g, 0, none⟩) n c] w fun e w' => ∃ g' c', e = .returned (.slice (some ⟨g', 0, none⟩) n c') ∧
      w'.ownsRow w.heap.size 53 2 (.slice (some ⟨g', 0, none⟩) n c') n cs ∧ Below w.heap.size w w' := by
  obtain ⟨i0, hi, hz0, hz1, hz2⟩ := info_parts info_term
  have HL := Lib.hid (show cs.length = n * 2 by have := h.2.2.2.1.length; have := h.1; omega)
  have H1 := Lib.hid h.2.2.2.1.one
  have HN := Lib.hid (h.below ((Below.refl w.heap.size w).alloc (Nat.le_refl _) (.cells #[] 53))).news
  have HO := Lib.hid (World.ownsRow_lit (base := w.heap.size) (e := 53) (size := 2) w #[] 0 (Nat.le_refl _) (by simp [maxLen]) rfl)
  have hsn := fun w n c => Lib.run_eql_slice_nil (P := Try.prog) w 44 53 (some ⟨g, 0, none⟩) n c 0 0 Try.underlying44
  clear h
  go_enter Try.func62, Try.ntmps62
  go_wp2_with (first
    | (at_builtin; refine wpList_append_own _ rfl (.tmp 5) (.tmp 6) 44 rfl w.heap.size 53 i0 (.agg #[.int .i64 0, .slice none 0 0]) 2 32 Try.underlying44 hi hz0 hz1 hz2 rfl (by decide) _ 0 [] rfl HO.out ⟨g, 0, none⟩ n c cs rfl HL.out HN.out H1.out (by unfold maxLen; omega) (by omega) (by simp) ?_; intro v2 w2 ho2 hg2 _))
  obtain ⟨g2, c2, rfl⟩ := Joins.ownsRow_form ho2 (by omega)
  have hfin : w2.ownsRow w.heap.size 53 2 (.slice (some ⟨g2, 0, none⟩) (0 + n) c2) n cs ∧ Below w.heap.size w w2 := by
    have e1 : 0 + n = n := by omega
    have h9 := ho2
    rw [e1] at h9 ⊢
    exact ⟨by simpa using h9, ((Below.refl w.heap.size w).alloc (Nat.le_refl _) _).grown hg2 (by simp) (fun r e => (HO.out.lt r e).1)⟩
  have Hfin := Lib.hid hfin
  clear ho2 hg2 hfin
  go_wp2_with fail
  go_ret
  have h9 := Hfin.out
  have e1 : 0 + n = n := by omega
  rw [e1] at h9 ⊢
  exact ⟨g2, c2, rfl, h9.1, h9.2⟩

theorem timesNumber_any (g n c be oe ce : Nat) (m x : Int) (p a : T) (cs : List Value) (w : World) (h : Tz w g n c (.c m p a) (.int .i64 m :: .slice (some ⟨be, oe, none⟩) p.enc.length ce :: cs)) (hb : n ≤ 10000)
    (h1 : -1000000000 ≤ m * x) (h2 : m * x ≤ 1000000000) :
    Calls Try.prog 42 #[.slice (some ⟨g, 0, none⟩) n c, .int .i64 x] w fun e w' => ∃ g' c', e = .returned (.slice (some ⟨g', 0, none⟩) n c') ∧
      w'.ownsRow w.heap.size 53 2 (.slice (some ⟨g', 0, none⟩) n c') n (.int .i64 (m * x) :: .slice (some ⟨be, oe, none⟩) p.enc.length ce :: cs) ∧ Below w.heap.size w w' := by
  have hp : 0 < n := by have := h.1; simp [T.cnt] at this; omega
  have k1 := Lib.hid (clone_any g n c _ _ w h hp hb)
  obtain ⟨y, hy⟩ : ∃ y, y = m * x := ⟨_, rfl⟩
  have q1 : IntKind.i64.wrap (m * x) = y := by rw [hy]; exact IntWalk.i64_in _ (by omega)
  rw [← hy] at h1 h2 ⊢
  clear h hy
  go_enter Try.func42, Try.ntmps42
  go_wp2_with fail
  refine (k1.out).mono ?_
  rintro ee w1 ⟨g', c', rfl, ho, hb1⟩
  have x0 : w1.cell? ⟨g', 0, none⟩ = some (.int .i64 m) := by rw [ho.cellAt 0 (by omega)]; rfl
  have f0 := ho.frozenAt 0
  have hst := (ho.stored 0 (.int .i64 y)).1
  have hbs := hb1.setCell (p := ⟨g', 0, none⟩) (ho.lt g' rfl).1 (.int .i64 y)
  have Hst := Lib.hid hst
  have Hbs := Lib.hid hbs
  clear ho hb1 hst hbs
  go_wp2_with fail
  go_ret
  exact ⟨g', c', rfl, Hst.out, Hbs.out⟩

end Go.Proofs.Ytaleaagnkfbhpab
