/- OrdBefore of the program; OrdDepth of the program. -/
import Derived.Test.YtlbaelehmoidpaaNext
namespace Go.Proofs.Ytlbaelehmoidpaa
set_option maxRecDepth 100000
open Go.RowKit

theorem TC.front {w : World} {d r : T} {cs : List Value} (h : TC w (d.app r) cs) : TC w d (cs.take (2 * d.cnt)) := by
  induction d generalizing cs with
  | z => simp [T.cnt, TC]
  | c k f q _ ih =>
    obtain ⟨b, off, cap, cs', rfl, h1, h2, h3, h4⟩ := h
    refine ⟨b, off, cap, cs'.take (2 * q.cnt), ?_, h1, h2, h3, ih h4⟩
    rw [show 2 * (T.c k f q).cnt = 2 * q.cnt + 2 by simp [T.cnt]; omega]
    rfl

theorem kind_row {xs : List Int} (h : T.kindRow xs = 1) : T.vldB xs = true ∧ (T.of xs).kind = 1 := by
  unfold T.kindRow at h
  split at h
  · rename_i hv; exact ⟨hv, h⟩
  · omega

theorem kindRow_vals (xs : List Int) : T.kindRow xs = -1 ∨ T.kindRow xs = 0 ∨ T.kindRow xs = 1 ∨ T.kindRow xs = 2 := by
  unfold T.kindRow
  split
  · right
    rcases Nat.eq_zero_or_pos (T.of xs).cnt with h | h
    · rw [T.cnt_zero h]; left; rfl
    · obtain ⟨d, n, e, h1, _⟩ := T.last_of _ h
      rw [h1, T.kind_app]
      split <;> simp
  · left; rfl

theorem bef_bad {xs : List Int} (h : ¬ T.kindRow xs = 1) : T.befRow xs = [] ∧ T.befOk xs = false := by
  have h2 : ¬ (T.vldB xs = true ∧ (T.of xs).kind = 1) := by
    rintro ⟨h3, h4⟩
    exact h (by rw [T.kindRow, if_pos h3, h4])
  refine ⟨by rw [T.befRow, if_neg h2], ?_⟩
  rw [T.befOk]
  cases hv : T.vldB xs with
  | false => rfl
  | true => simp; intro hk; exact h2 ⟨hv, hk⟩

/-- The front of a row is a row. -/
theorem own_take {w : World} {B e n size g cap k : Nat} {xs : List Value} (h : w.ownsRow B e size (.slice (some ⟨g, 0, none⟩) n cap) n xs) (hk : k ≤ n) :
    w.ownsRow B e size (.slice (some ⟨g, 0, none⟩) k cap) k (xs.take (k * size)) := by
  have hl : k * size ≤ n * size := Nat.mul_le_mul_right _ hk
  refine ⟨by rw [List.length_take, h.1]; omega, ?_⟩
  rcases h.2 with ⟨h1, _⟩ | ⟨g', cap', cur, h1, h2, h3, h4, h5, h6, h7⟩
  · simp at h1
  · simp at h1
    obtain ⟨rfl, rfl⟩ := h1
    refine .inr ⟨g, cap, cur, rfl, h2, h3, by omega, h5, h6, ?_⟩
    rw [← h7, List.take_take, Nat.min_eq_left hl]

set_option maxHeartbeats 2000000 in
theorem lastLess_any (g n cap : Nat) (d e t : T) (m : Int) (cs : List Value) (w0 w : World) (hn : n = d.cnt + 1) (hnb : n ≤ 1000000000000) (hm1 : 1 ≤ m) (hm2 : m ≤ 9999) (ht : t = d.app (.c m e .z))
    (ho : w.ownsRow w0.heap.size 57 2 (.slice (some ⟨g, 0, none⟩) n cap) n cs) (hT : TC w0 t cs) :
    Calls Try.prog 83 #[.slice (some ⟨g, 0, none⟩) n cap] w fun e w' => ∃ n' cs', e = .returned (.slice (some ⟨g, 0, none⟩) n' cap) ∧ n' = t.less.cnt ∧
      w'.ownsRow w0.heap.size 57 2 (.slice (some ⟨g, 0, none⟩) n' cap) n' cs' ∧ TC w0 t.less cs' ∧ Below w0.heap.size w w' := by
  have hls : t.less = if m = 1 then d else d.app (.c (m - 1) e .z) := by rw [ht, T.less_app]
  have hT2 := (ht ▸ hT).set (m := m - 1)
  obtain ⟨be, oe, ce, p1, p2, p3, p4, p5⟩ := hT.pick (d := d) (k := d.cnt) ht.symm rfl
  have hdc : (n - 1) * 2 = 2 * d.cnt := by omega
  have hdl : cs.length = n * 2 := ho.1
  have x1 : w.cell? ⟨g, (n - 1) * 2, none⟩ = some (.int .i64 m) := by rw [ho.cellAt _ (by omega), hdc]; exact p1
  have f1 := ho.frozenAt ((n - 1) * 2)
  have hst := ho.stored ((n - 1) * 2) (.int .i64 (m - 1))
  have hbs : Below w0.heap.size w (w.setCell ⟨g, (n - 1) * 2, none⟩ (.int .i64 (m - 1))) := (Below.refl _ _).setCell (p := ⟨g, (n - 1) * 2, none⟩) (ho.lt g rfl).1 _
  rw [← hdc] at hT2
  have y1 : (w.setCell ⟨g, (n - 1) * 2, none⟩ (.int .i64 (m - 1))).cell? ⟨g, (n - 1) * 2, none⟩ = some (.int .i64 (m - 1)) := World.cell?_setCell_same _ _ _ x1
  have hge : 1 ≤ n := by omega
  have hcapn : n ≤ cap := by
    rcases ho.2 with ⟨h1, _⟩ | ⟨g', cap', cur, h1, h2, h3, h4, h5, h6, h7⟩
    · simp at h1
    · simp at h1; omega
  have hcapm : cap ≤ maxLen := by
    rcases ho.2 with ⟨h1, _⟩ | ⟨g', cap', cur, h1, h2, h3, h4, h5, h6, h7⟩
    · simp at h1
    · simp at h1; omega
  have HLS := Lib.hid hls
  have HT2 := Lib.hid hT2
  have HN := Lib.hid hn
  have Hst := Lib.hid hst
  have Hbs := Lib.hid hbs
  have HDC := Lib.hid hdc
  clear hls hT2 hT hn hst hbs hdc p1 p2 p3 ho ht hdl
  by_cases hn0 : m = 1
  · have hls2 : t.less = d := by rw [HLS.out, if_pos hn0]
    have HL2 := Lib.hid hls2
    have hz : ((m - 1 : Int) == 0) = true := by rw [hn0]; rfl
    clear hls2 hn0
    go_enter Try.func83, Try.ntmps83
    go_wp2_with fail
    go_ret
    refine ⟨n - 1, _, rfl, by rw [HL2.out]; have := HN.out; omega, own_take Hst.out.1 (by omega), ?_, Hbs.out⟩
    rw [HL2.out, HDC.out]
    have h := HT2.out.front
    rw [HDC.out] at h
    exact h
  · have hls2 : t.less = d.app (.c (m - 1) e .z) := by rw [HLS.out, if_neg hn0]
    have HL2 := Lib.hid hls2
    have hz : ((m - 1 : Int) == 0) = false := by simp; omega
    clear hls2 hn0
    go_enter Try.func83, Try.ntmps83
    go_wp2_with fail
    go_ret
    exact ⟨n, _, rfl, by rw [HL2.out, T.app_cnt]; exact HN.out, Hst.out.1, by rw [HL2.out]; exact HT2.out, Hbs.out⟩
theorem T.depth_le (t : T) : t.depth ≤ t.body.length := by
  induction t with
  | z => simp [T.depth]
  | c n e r ih _ => rw [T.body_c]; simp [T.depth, T.enc]; omega

end Go.Proofs.Ytlbaelehmoidpaa
