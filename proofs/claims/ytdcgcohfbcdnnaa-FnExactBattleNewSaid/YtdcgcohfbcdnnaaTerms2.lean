/- The model's terms once more: neither row is nil. -/
import Derived.Test.YtdcgcohfbcdnnaaOld
namespace Go.Proofs.Ytdcgcohfbcdnnaa
set_option maxRecDepth 100000
open Go.RowKit

theorem own_some' {w : World} {B e n size : Nat} {v : Value} {xs : List Value} (h : w.ownsRow B e size v n xs) (hn : ¬ v = .slice none 0 0) : ∃ g cap, v = .slice (some ⟨g, 0, none⟩) n cap ∧ B ≤ g := by
  rcases h.2 with ⟨h1, _⟩ | ⟨g, cap, cur, h0, h1, _⟩
  · exact absurd h1 hn
  · exact ⟨g, cap, h0, h1⟩

set_option maxHeartbeats 1000000 in
theorem l1Terms_some (b off len cap : Nat) (xs : List Int) (t : T) (w : World) (hl : xs.length = len) (hb : len ≤ 1000000000000) (hlc : len ≤ cap) (hcm : cap ≤ maxLen) (hat : At w b off xs) (hx : xs = t.enc) :
    Calls Try.prog 100 #[.slice (some ⟨b, off, none⟩) len cap] w fun e w' => ∃ g1 k1 g2 k2 es, e = .returned (.tuple #[.slice (some ⟨g1, 0, none⟩) t.cnt k1, .slice (some ⟨g2, 0, none⟩) t.cnt k2]) ∧
      w'.ownsRow w.heap.size 3 1 (.slice (some ⟨g1, 0, none⟩) t.cnt k1) t.cnt (t.times.map (.int .i64)) ∧ w'.ownsRow w.heap.size 22 1 (.slice (some ⟨g2, 0, none⟩) t.cnt k2) t.cnt es ∧ EC w t es ∧ Below w.heap.size w w' := by
  have h0 : xs.drop 0 = (t.cnt : Int) :: t.body := by rw [hx]; rfl
  have hel : t.body.length + 1 = len := by rw [← hl, hx, T.enc_len]
  obtain ⟨i0, hi, hz0, hz1, hz2⟩ := info_parts info_int
  obtain ⟨j0, hj, hy0, hy1, hy2⟩ := info_parts info_ints
  have H0 := Lib.hid (drop_more h0)
  have H1 := Lib.hid hx
  have H2 := Lib.hid hl
  have H3 := Lib.hid hel
  clear h0 hx hl hel
  go_enter Try.func100, Try.ntmps100
  go_wp2_with fail
  go_loopw [4, 5, 6] (fun v1 v2 i wr => ∃ (a : Nat) (d u : T) (es : List Value), 1 ≤ a ∧ a ≤ len ∧ Hid (a + u.body.length = len ∧ d.app u = t ∧ xs.drop a = u.body) ∧ i = .int .i64 a ∧
      wr.ownsRow w.heap.size 3 1 v1 d.cnt (d.times.map (.int .i64)) ∧ wr.ownsRow w.heap.size 22 1 v2 d.cnt es ∧ EC w d es ∧ Below w.heap.size w wr ∧ ¬ v1 = .slice none 0 0 ∧ ¬ v2 = .slice none 0 0) (fun _ _ i _ => len - (intOf i).toNat)
  case atStart =>
    refine ⟨1, .z, t, [], by omega, by have := H3.out; omega, ⟨by have := H3.out; omega, rfl, H0.out⟩, rfl, ?_, ?_, rfl, ?_, by simp, by simp⟩
    · exact (World.ownsRow_lit w #[] 0 (Nat.le_refl _) (by simp [maxLen]) rfl).alloc _
    · have h := World.ownsRow_lit (base := w.heap.size) (e := 22) (size := 1) (w.alloc (.cells #[] 3)) #[] 0 (by simp) (by simp [maxLen]) rfl
      rw [World.size_alloc] at h
      exact h
    · exact ((Below.refl _ _).alloc (Nat.le_refl _) _).alloc (by simp) _
  case round =>
    obtain ⟨a, d, u, es, ha1, ha2, HU, rfl, ho1, ho2, hE, hbel, hz1', hz2'⟩ := hrel
    obtain ⟨h1, h2, h3⟩ := HU.out
    cases u with
    | z =>
      have hae : a = len := by simpa [T.body] using h1
      subst hae
      have hdt : d = t := by rw [T.app_z] at h2; exact h2
      subst hdt
      clear h1 h2 h3
      obtain ⟨g1, k1, rfl, _⟩ := own_some' ho1 hz1'
      obtain ⟨g2, k2, rfl, _⟩ := own_some' ho2 hz2'
      go_wp2_with fail
      go_ret2
      exact ⟨g1, k1, g2, k2, _, rfl, ho1, ho2, hE, hbel⟩
    | c n e r =>
      have hd0 : xs.drop a = n :: (e.enc ++ r.body) := by rw [h3, T.body_c]
      have hc0 := (hbel.cell (p := ⟨b, off + a, none⟩) (by exact hat.lt (by rw [H1.out]; exact T.enc_ne t))).trans (hat.get hd0)
      have hd1 := drop_more hd0
      have hee := T.enc_len e
      have hal : a + 1 + e.enc.length + r.body.length = len := by rw [T.body_c] at h1; simp at h1; omega
      have hal2 : a + 1 + e.enc.length ≤ len := by omega
      have hpos : 1 ≤ e.enc.length := by omega
      have hdl : d.cnt ≤ len := by
        have := T.cnt_le t
        have h5 := T.app_cnt d (.c n e r)
        rw [h2] at h5
        have := H3.out
        omega
      have hatw : At wr b off xs := hat.below hbel (hat.lt (by rw [H1.out]; exact T.enc_ne t))
      have hate : At w b (off + (a + 1)) e.enc := (hd1 ▸ hat.drop (a + 1)).left
      have Hal := Lib.hid hal
      have Hd2 := Lib.hid (drop_app hd1)
      have Happ := Lib.hid h2
      have sp := Lib.hid (l1Span_any (e.body.length + 1) b off len cap (a + 1) xs r.body e wr (by omega) H2.out hb hatw hd1)
      have Hate := Lib.hid hate
      have Hne := Lib.hid (own_ne ho1 ho2 (by decide))
      have Hbel := Lib.hid hbel
      have hsz := hbel.size
      clear h1 h2 h3 hd0 hd1 hee hal hatw hate hbel
      go_wp2_with fail
      refine (sp.out).mono ?_
      rintro ee w' ⟨rfl, rfl⟩
      go_wp2_with (first
        | (at_builtin; refine wpList_append_own _ rfl (.tmp 18) (.tmp 23) 22 rfl w.heap.size 3 i0 (.int .i64 0) 1 8 Try.underlying22 hi hz0 hz1 hz2 rfl (by decide) _ _ _ rfl (ho1.alloc _) ⟨wr.heap.size, 0, none⟩ 1 1 [.int .i64 n] rfl rfl (cell_one_new _ _ _) (ints_oneCell _ [n]) (by unfold maxLen; omega) (by omega) (by simp; omega) ?_; intro v1' w1 ho1' hg1 hnl1; have ho2b := ho2b_of ho2 hg1 Hne; have hq2 := le_of_alloc hg1)
        | (at_builtin; refine wpList_append_own _ rfl (.tmp 25) (.tmp 31) 59 rfl w.heap.size 22 j0 (.slice none 0 0) 1 24 Try.underlying59 hj hy0 hy1 hy2 rfl (by decide) _ _ _ rfl (ho2b.alloc _) ⟨w1.heap.size, 0, none⟩ 1 1 [.slice (some ⟨b, off + (a + 1), none⟩) e.enc.length (cap - (a + 1))] rfl rfl (cell_one_new _ _ _) (slice_oneCell _ _ _) (by unfold maxLen; omega) (by omega) (by simp; omega) ?_; intro v2' w2 ho2' hg2 hnl2))
      go_roundw
      case rel =>
        have hb1 := (Hbel.out.alloc (by omega) _).grown hg1 (by simp; omega) (fun k hk => (ho1.lt k hk).1)
        have hb2 := (hb1.alloc (by omega) _).grown hg2 (by simp; omega) (fun k hk => (ho2.lt k hk).1)
        refine ⟨a + 1 + e.enc.length, d.app (.c n e .z), r, es ++ [.slice (some ⟨b, off + (a + 1), none⟩) e.enc.length (cap - (a + 1))], by omega, by omega, ⟨Hal.out, ?_, Hd2.out⟩, by go_num, ?_, ?_, hE.snoc Hate.out (by omega) (by omega), hb2, fun h => hz1' (hnl1.1 h).1, fun h => hz2' (hnl2.1 h).1⟩
        · rw [T.app_assoc]; exact Happ.out
        · rw [T.app_cnt, T.times_app, List.map_append]
          exact kept_of ho1' hg2 (own_ne ho1' ho2b (by decide))
        · rw [T.app_cnt]; exact ho2'
      case measure => simp [intOf]; omega

end Go.Proofs.Ytdcgcohfbcdnnaa
