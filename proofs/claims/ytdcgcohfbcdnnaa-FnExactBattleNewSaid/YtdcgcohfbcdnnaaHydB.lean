/- The model's l5Branches: the branches of a tree. -/
import Derived.Test.YtdcgcohfbcdnnaaHydV
import Derived.Test.YtdcgcohfbcdnnaaHydT
import Derived.Test.YtdcgcohfbcdnnaaTerms2
namespace Go.Proofs.Ytdcgcohfbcdnnaa
set_option maxRecDepth 100000
open Go.RowKit

theorem HE.tree {xs : List Int} {a : Nat} {r : Int} {k : H} {rest : List Int} (h : HE xs a r) (hx : xs.drop a = k.enc ++ rest) : r = (a + k.enc.length : Nat) := by
  rcases h with ⟨h1, _⟩ | ⟨f, rest', h1, rfl⟩
  · rw [H.out_one (k := 0) hx, H.out_zero] at h1
    omega
  · rw [hx] at h1
    rw [(H.enc_inj h1).1]

set_option maxHeartbeats 2000000 in
theorem l5Branches_any (b off len cap : Nat) (f : H) (w : World) (hl : f.enc.length = len) (hb : len ≤ 60) (hlc : len ≤ cap) (hcm : cap ≤ maxLen) (hat : At w b off f.enc) :
    Calls Try.prog 69 #[.slice (some ⟨b, off, none⟩) len cap] w fun e w' => ∃ g c es, e = .returned (.slice (some ⟨g, 0, none⟩) f.cnt c) ∧
      w'.ownsRow w.heap.size 22 1 (.slice (some ⟨g, 0, none⟩) f.cnt c) f.cnt es ∧ HC w f es ∧ Below w.heap.size w w' := by
  obtain ⟨j0, hj, hy0, hy1, hy2⟩ := info_parts info_ints
  have hel : f.body.length + 1 = len := by rw [← hl, H.enc_len]
  have hbw : b < w.heap.size := hat.lt (H.enc_ne f)
  have HL := Lib.hid hl
  have HA := Lib.hid hat
  have HE' := Lib.hid hel
  clear hl hat
  go_enter Try.func69, Try.ntmps69
  go_wp2_with fail
  go_loopw [3, 4] (fun v3 v4 wr => ∃ (a : Nat) (d u : H) (es : List Value), 1 ≤ a ∧ a ≤ len ∧ Hid (a + u.body.length = len ∧ d.app u = f ∧ f.enc.drop a = u.body) ∧ v4 = .int .i64 a ∧
      wr.ownsRow w.heap.size 22 1 v3 d.cnt es ∧ HC w d es ∧ ¬ v3 = .slice none 0 0 ∧ Below w.heap.size w wr) (fun _ v4 _ => len - (intOf v4).toNat)
  case atStart => exact ⟨1, .z, f, [], by omega, by omega, ⟨by omega, rfl, rfl⟩, rfl, World.ownsRow_lit w #[] 0 (Nat.le_refl _) (by simp [maxLen]) rfl, rfl, by simp, (Below.refl _ _).alloc (Nat.le_refl _) _⟩
  case round =>
    obtain ⟨a, d, u, es, ha1, ha2, HU, rfl, ho, hE, hnn, hbr⟩ := hrel
    obtain ⟨h1, h2, h3⟩ := HU.out
    by_cases hlt : a < len
    · obtain ⟨k, r, rfl⟩ : ∃ k r, u = .c k r := by
        cases u with
        | z => simp [H.body] at h1; omega
        | c k r => exact ⟨k, r, rfl⟩
      have hd0 : f.enc.drop a = k.enc ++ r.body := by rw [h3, H.body_c]
      have ke := Lib.hid (l5End_any (len + 1) (some ⟨b, off, none⟩) len cap a f.enc wr (by omega) HL.out hb (by omega) (fun _ => ⟨b, off, rfl, HA.out.below hbr hbw⟩))
      have hee := H.enc_len k
      have hal : a + k.enc.length + r.body.length = len := by rw [H.body_c] at h1; simp at h1; omega
      have hkl : a + k.enc.length ≤ len := by omega
      have hkp : 1 ≤ k.enc.length := by omega
      have hdl : d.cnt ≤ 60 := by
        have h5 := H.app_cnt d (.c k r)
        rw [h2] at h5
        have := H.cnt_le f
        omega
      have hate : At w b (off + a) k.enc := (hd0 ▸ HA.out.drop a).left
      have Hate := Lib.hid hate
      have Hd0 := Lib.hid hd0
      have Hd2 := Lib.hid (drop_app hd0)
      have Hal := Lib.hid hal
      have Happ := Lib.hid h2
      have Ho := Lib.hid ho
      have HEs := Lib.hid hE
      have Hnn := Lib.hid hnn
      have Hbr := Lib.hid hbr
      have hsz := hbr.size
      have hca : ¬ cap = a := by omega
      clear h1 h2 h3 hd0 hee hal hate ho hE hnn hbr
      go_wp2_with fail
      refine (ke.out).mono ?_
      rintro ee w' ⟨rr, rfl, hER, rfl⟩
      have hrr := hER.tree Hd0.out
      subst hrr
      obtain ⟨L, hL⟩ : ∃ L, L = k.enc.length := ⟨_, rfl⟩
      rw [← hL] at hkl hkp ⊢
      have hge : (a : Int) ≤ ((a + L : Nat) : Int) := by omega
      have hcc : a + L ≤ cap := by omega
      have hsub : a + L - a = L := by omega
      have HLk := Lib.hid hL
      clear hER hL
      go_wp2_with (first
        | (at_builtin; refine wpList_append_own _ rfl (.tmp 14) (.tmp 19) 59 rfl w.heap.size 22 j0 (.slice none 0 0) 1 24 Try.underlying59 hj hy0 hy1 hy2 rfl (by decide) _ _ _ rfl (Ho.out.alloc _) ⟨wr.heap.size, 0, none⟩ 1 1 [.slice (some ⟨b, off + a, none⟩) L (cap - a)] rfl rfl (cell_one_new _ _ _) (slice_oneCell _ _ _) (by unfold maxLen; omega) (by omega) (by simp; omega) ?_; intro v2' w2 ho2 hg2 hnl2))
      go_roundw
      case rel =>
        have h9 : HC w (d.app (.c k .z)) (es ++ [.slice (some ⟨b, off + a, none⟩) L (cap - a)]) := by
          have := HEs.out.snoc Hate.out (cap := cap - a) (by rw [← HLk.out]; omega) (by omega)
          rw [← HLk.out] at this
          exact this
        refine ⟨a + L, d.app (.c k .z), r, _, by omega, by omega, ⟨by rw [HLk.out]; exact Hal.out, by rw [H.app_assoc]; exact Happ.out, by rw [HLk.out]; exact Hd2.out⟩, by go_num, by rw [H.app_cnt]; exact ho2, h9, fun h => Hnn.out (hnl2.1 h).1, (Hbr.out.alloc (by omega) _).grown hg2 (by simp; omega) (fun k hk => (Ho.out.lt k hk).1)⟩
      case measure => simp [intOf]; omega
    · have hu : u = .z := by
        cases u with
        | z => rfl
        | c k r => rw [H.body_c] at h1; simp [H.enc] at h1; omega
      subst hu
      have hdf : d = f := by rw [H.app_z] at h2; exact h2
      subst hdf
      obtain ⟨g, c, rfl, _⟩ := own_some' ho hnn
      clear h1 h2 h3
      go_wp2_with fail
      go_ret
      exact ⟨g, c, es, rfl, ho, hE, hbr⟩

end Go.Proofs.Ytdcgcohfbcdnnaa
