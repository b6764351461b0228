/- OrdFall of the model, and the program's contract whole. -/
import Derived.Test.YtdcaefgbpnjjaaaFallC
import Derived.Test.YtdcaefgbpnjjaaaDownS
namespace Go.Proofs.Ytdcaefgbpnjjaaa
open Go.RowKit

theorem impl_OrdFall (ao a2 : Option Addr) (len cap len2 cap2 : Nat) (xs ns : List Int) (w : World) (h : Sl w ao len cap xs) (h2 : Sl w a2 len2 cap2 ns) :
    Calls Try.prog 18 #[.slice ao len cap, .slice a2 len2 cap2] w (FallPostI w (T.fallP xs ns)) := by
  rcases vld_tf xs with h1 | h1
  · by_cases h3 : len2 ≤ 3000
    · obtain ⟨b, off, t, rfl, rfl, hs, hos, hat, hn, hl, hp, hc, hm⟩ := h.valid h1
      exact impl_OrdFall_good b off len cap a2 len2 cap2 t ns w hat hn hc hm h1 h2 h3
    · rw [T.fallP_bad (.inr (.inl (by rw [h2.1]; omega)))]
      exact impl_OrdFall_bad ao a2 len cap len2 cap2 xs ns w h h2 (.inr (by omega))
  · rw [T.fallP_bad (.inl h1)]
    exact impl_OrdFall_bad ao a2 len cap len2 cap2 xs ns w h h2 (.inl h1)

theorem fallPost_lit {w W : World} (hb : Below w.heap.size w W) : FallPost w none (.returned (.tuple #[.slice (some ⟨W.heap.size, 0, none⟩) 0 0, .bool false])) (W.alloc (.cells #[] 22)) :=
  ⟨_, 0, 0, [], rfl, rfl, World.ownsRow_lit W #[] 0 hb.size (by simp [maxLen]) rfl, RowsT.nil _ _, hb.alloc hb.size _⟩

/-- Between two rounds of the model's loop. -/
def FsRel (t : T) (ns : List Int) (w : World) (k : Nat) (v0 v6 v8 : Value) (wr : World) : Prop :=
  k ≤ ns.length ∧ v8 = .int .i64 k ∧ Below w.heap.size w wr ∧ ∃ u l vs a n c, T.RunL t (ns.take k) u l ∧ n = l.length ∧ v6 = .slice a n c ∧ wr.ownsRow w.heap.size 22 1 (.slice a n c) n vs ∧ RowsT w.heap.size wr vs l ∧
    ∃ bb off c', v0 = .slice (some ⟨bb, off, none⟩) u.enc.length c' ∧ u.enc.length ≤ c' ∧ c' ≤ maxLen ∧ At wr bb off u.enc

set_option maxRecDepth 100000 in
set_option maxHeartbeats 4000000 in
theorem spec_OrdFall_bad (ao a2 : Option Addr) (len cap len2 cap2 : Nat) (xs ns : List Int) (w : World) (h : Sl w ao len cap xs) (h2 : Sl w a2 len2 cap2 ns) (hbad : T.vldB xs = false ∨ 3000 < len2) :
    Calls Try.prog 17 #[.slice ao len cap, .slice a2 len2 cap2] w (FallPost w none) := by
  have hw2 : Below w.heap.size w (w.alloc (.cells #[] 22)) := (Below.refl _ _).alloc (Nat.le_refl _) _
  have hm2 := h2.2.2.1
  have hown : (w.alloc (.cells #[] 22)).ownsRow w.heap.size 22 1 (.slice (some ⟨w.heap.size, 0, none⟩) 0 0) 0 [] := World.ownsRow_lit w #[] 0 (Nat.le_refl _) (by simp [maxLen]) rfl
  have HW2 := Lib.hid hw2
  have Hown := Lib.hid hown
  rcases vld_tf xs with h1 | h1
  · have k1 := Lib.hid (spec_valid ao len cap xs _ (h.below hw2) h1)
    have hlt : 3000 < len2 := by
      rcases hbad with h | h
      · rw [h1] at h; cases h
      · exact h
    clear h h1 h2 hbad hw2 hown
    go_enter Try.func17, Try.ntmps17
    go_wp2_with fail
    refine (k1.out).mono ?_
    rintro ee w3 ⟨rfl, hb3⟩
    have Hb3 := Lib.hid hb3
    clear hb3
    go_wp2_with fail
    go_ret2
    exact ⟨_, 0, 0, [], rfl, rfl, ownsRow_below' Hown.out Hb3.out, RowsT.nil _ _, HW2.out.trans (Hb3.out.mono HW2.out.size)⟩
  · have k1 := Lib.hid (spec_valid ao len cap xs _ (h.below hw2) h1)
    clear h h1 h2 hbad hw2 hown
    go_enter Try.func17, Try.ntmps17
    go_wp2_with fail
    refine (k1.out).mono ?_
    rintro ee w3 ⟨rfl, hb3⟩
    have Hb3 := Lib.hid hb3
    clear hb3
    go_wp2_with fail
    go_ret2
    exact ⟨_, 0, 0, [], rfl, rfl, ownsRow_below' Hown.out Hb3.out, RowsT.nil _ _, HW2.out.trans (Hb3.out.mono HW2.out.size)⟩

set_option maxRecDepth 100000 in
set_option maxHeartbeats 4000000 in
theorem spec_OrdFall_good (b off len cap : Nat) (a2 : Option Addr) (len2 cap2 : Nat) (t : T) (ns : List Int) (w : World) (hat : At w b off t.enc) (hl : len = t.enc.length) (hc : len ≤ cap) (hm : cap ≤ maxLen) (h1 : T.vldB t.enc = true) (h2 : Sl w a2 len2 cap2 ns) (h3 : len2 ≤ 3000) :
    Calls Try.prog 17 #[.slice (some ⟨b, off, none⟩) len cap, .slice a2 len2 cap2] w (FallPost w (T.fallP t.enc ns)) := by
  have hw2 : Below w.heap.size w (w.alloc (.cells #[] 22)) := (Below.refl _ _).alloc (Nat.le_refl _) _
  have hown : (w.alloc (.cells #[] 22)).ownsRow w.heap.size 22 1 (.slice (some ⟨w.heap.size, 0, none⟩) 0 0) 0 [] := World.ownsRow_lit w #[] 0 (Nat.le_refl _) (by simp [maxLen]) rfl
  have hsl1 : Sl w (some ⟨b, off, none⟩) len cap t.enc := Sl.of_at hl hc hm hat
  have k1 := Lib.hid (spec_valid (some ⟨b, off, none⟩) len cap t.enc _ (hsl1.below hw2) h1)
  have HW2 := Lib.hid hw2
  have Hown := Lib.hid hown
  have HAT := Lib.hid hat
  have HN := Lib.hid hl
  have H1 := Lib.hid h1
  have H2 := Lib.hid h2
  clear h1 hat hl h2 hsl1 hw2 hown
  go_enter Try.func17, Try.ntmps17
  go_wp2_with fail
  refine (k1.out).mono ?_
  rintro ee w3 ⟨rfl, hb3⟩
  have Hb3 := Lib.hid (HW2.out.trans (hb3.mono HW2.out.size))
  have Hown3 := Lib.hid (ownsRow_below' Hown.out hb3)
  clear hb3
  go_wp2_with fail
  go_loopw [7] (fun i wr => ∃ k : Nat, k ≤ len2 ∧ i = .int .i64 k ∧ wr = w3 ∧ ∀ v ∈ ns.take k, 0 ≤ v ∧ v ≤ 99)
    (fun i _ => len2 - (intOf i).toNat)
  case atStart => exact ⟨0, Nat.zero_le _, rfl, rfl, fun v hv => by simp at hv⟩
  case round =>
    obtain ⟨k, hk, rfl, rfl, hall⟩ := hrel
    have HALL := Lib.hid hall
    clear hall
    by_cases hlt : k < len2
    · obtain ⟨g, o, hae, hat2⟩ := H2.out.2.2.2 (by omega)
      have hkn : k < ns.length := by rw [H2.out.1]; exact hlt
      obtain ⟨x, hx⟩ : ∃ x, x = ns[k] := ⟨_, rfl⟩
      have hxc0 : w.cell? ⟨g, o + k, none⟩ = some (.int .i64 x) := by
        rw [hat2 k hkn, hx]
        simp [hkn]
      have hxc : wr.cell? ⟨g, o + k, none⟩ = some (.int .i64 x) := (Hb3.out.cell (p := ⟨g, o + k, none⟩) (World.block_lt_of_cell? w _ hxc0)).trans hxc0
      have htk : ns.take (k + 1) = ns.take k ++ [x] := by rw [hx, List.take_succ_eq_append_getElem hkn]
      have Htk := Lib.hid htk
      have Hxm := Lib.hid (show x ∈ ns by rw [hx]; exact List.getElem_mem hkn)
      have hcap := H2.out.2.1
      subst hae
      clear hx htk hat2 hkn hxc0
      by_cases hv : 0 ≤ x ∧ x ≤ 99
      · have ks := Lib.hid (fun w => l1In_yes x 0 99 w hv.1 hv.2)
        have HV := Lib.hid hv
        clear hv
        go_wp2_with fail
        refine (ks.out _).mono ?_
        rintro ee wx ⟨rfl, rfl⟩
        go_wp2_with fail
        go_roundw
        case rel => exact ⟨k + 1, by omega, by simp, by trivial, fun v hv => by
          rw [Htk.out, List.mem_append] at hv
          rcases hv with hv | hv
          · exact HALL.out v hv
          · simp at hv
            subst hv
            exact HV.out⟩
        case measure => simp [intOf]; omega
      · have ks := Lib.hid (fun w => l1In_no x 0 99 w (by omega))
        have hres := T.fallP_bad (xs := t.enc) (ns := ns) (.inr (.inr ⟨x, Hxm.out, hv⟩))
        have Hres := Lib.hid hres
        clear hv hres
        go_wp2_with fail
        refine (ks.out _).mono ?_
        rintro ee wx ⟨rfl, rfl⟩
        go_wp2_with fail
        go_ret2
        rw [Hres.out]
        exact ⟨_, 0, 0, [], rfl, rfl, Hown3.out, RowsT.nil _ _, Hb3.out⟩
    · obtain rfl : k = len2 := by omega
      have hall : ∀ v ∈ ns, 0 ≤ v ∧ v ≤ 99 := by
        have h := HALL.out
        rw [← H2.out.1, List.take_length] at h
        exact h
      have HALL2 := Lib.hid hall
      have HFP := Lib.hid (T.fallP_good H1.out (by rw [H2.out.1]; exact h3) hall)
      have hst : FsRel t ns w 0 (.slice (some ⟨b, off, none⟩) len cap) (.slice (some ⟨w.heap.size, 0, none⟩) 0 0) (.int .i64 (0 : Nat)) wr :=
        ⟨Nat.zero_le _, rfl, Hb3.out, t, [], [], _, 0, 0, by rw [List.take_zero]; exact .nil, rfl, rfl, Hown3.out, RowsT.nil _ _, b, off, cap, by rw [← HN.out], by rw [← HN.out]; exact hc, hm, HAT.out.below Hb3.out (HAT.out.lt (T.enc_ne t))⟩
      have Hst := Lib.hid hst
      clear hall hst
      go_wp2_with fail
      go_loopw [0, 6, 8] (fun v0 v6 v8 wr => ∃ m, FsRel t ns w m v0 v6 v8 wr) (fun _ _ v8 _ => k - (intOf v8).toNat)
      case atStart => exact ⟨0, Hst.out⟩
      case round =>
        obtain ⟨m, hm2, rfl, hb, u, ls, vs, a, n, c, hru, hn, rfl, hout, hrows, bb, off', c', rfl, hle, hcm', hata⟩ := hrel
        rw [H2.out.1] at hm2
        obtain ⟨ln, hln⟩ : ∃ ln, ln = u.enc.length := ⟨_, rfl⟩
        rw [← hln] at hle ⊢
        have HLN := Lib.hid hln
        have hsl := Sl.of_at (t := u) hln hle hcm' hata
        have hnm : n = m := by rw [hn, hru.len, List.length_take, H2.out.1]; omega
        have hnk : n ≤ k := by omega
        have HB := Lib.hid hb
        have HRU := Lib.hid hru
        have HNL := Lib.hid hn
        have HNM := Lib.hid hnm
        have Hout := Lib.hid hout
        have Hrows := Lib.hid hrows
        have HSL := Lib.hid hsl
        have HVU := Lib.hid (hru.vld H1.out)
        have Hend := Lib.hid (show (m = k ∨ u = .z) → T.fallP t.enc ns = some ls from fun h => HFP.out.trans (T.fall_done ⟨List.take_prefix m ns, by
          rcases h with h | h
          · refine .inr ⟨?_, u, ls, hru⟩
            rw [h, ← H2.out.1, List.take_length]
          · subst h
            exact .inl (.inl ⟨ls, hru⟩)⟩ hru))
        clear hb hru hn hnm hout hrows hata hln hsl
        by_cases hlt : m < k
        · by_cases hz : u = .z
          · have hl1 : ln = 1 := by rw [HLN.out, hz]; rfl
            have hres := Hend.out (.inr hz)
            have Hres := Lib.hid hres
            clear hz hres
            go_wp2_with fail
            go_ret2
            rw [Hres.out]
            exact ⟨a, n, c, vs, rfl, HNL.out, Hout.out, Hrows.out, HB.out⟩
          · have hl2 : 1 < ln := by
              cases u with
              | z => exact absurd rfl hz
              | c q f v =>
                have h1 := HLN.out
                rw [T.enc_len, T.body_c] at h1
                simp at h1
                omega
            obtain ⟨g, o, hae, hat2⟩ := H2.out.2.2.2 (by omega)
            have hkn : m < ns.length := by rw [H2.out.1]; exact hlt
            obtain ⟨x, hx⟩ : ∃ x, x = ns[m] := ⟨_, rfl⟩
            have hxc0 : w.cell? ⟨g, o + m, none⟩ = some (.int .i64 x) := by
              rw [hat2 m hkn, hx]
              simp [hkn]
            have hxc := (HB.out.cell (p := ⟨g, o + m, none⟩) (World.block_lt_of_cell? w _ hxc0)).trans hxc0
            have htk : ns.take (m + 1) = ns.take m ++ [x] := by rw [hx, List.take_succ_eq_append_getElem hkn]
            have Htk := Lib.hid htk
            have hxm : x ∈ ns := by rw [hx]; exact List.getElem_mem hkn
            have hcap := H2.out.2.1
            have hx99 := HALL2.out x hxm
            have hxi : -9223372036854775808 ≤ x ∧ x ≤ 9223372036854775807 := by omega
            have HZ := Lib.hid hz
            obtain ⟨nr, hnr⟩ : ∃ nr, nr = T.stepRow u.enc x := ⟨_, rfl⟩
            obtain ⟨no, hno⟩ : ∃ no, no = T.stepOk u.enc x := ⟨_, rfl⟩
            have hv2 := T.stepRow_val HVU.out hx99.1 hx99.2
            have Hnr := Lib.hid (hnr.trans hv2.1)
            have Hno := Lib.hid (hno.trans hv2.2)
            have ks2 := Lib.hid (spec_OrdStep (some ⟨bb, off', none⟩) ln c' u.enc x _ HSL.out hxi.1 hxi.2)
            unfold OrdOkPost at ks2
            rw [← hnr, ← hno] at ks2
            subst hae
            clear hx htk hat2 hkn hxc0 hz hnr hno hv2 hxm hx99 hxi
            go_wp2_with fail
            refine (ks2.out).mono ?_
            rintro ee w3 ⟨a3, c3, rfl, ho3, hb3⟩
            have Hb3 := Lib.hid (HB.out.trans (hb3.mono HB.out.size))
            have Hout3 := Lib.hid (ownsRow_below' Hout.out hb3)
            have Hrows3 := Lib.hid (Hrows.out.kept (fun g cur _ hc => hb3.block g (Array.getElem?_eq_some_iff.1 hc).1))
            have Ho3 := Lib.hid ho3
            have hws : w.heap.size ≤ w3.heap.size := Hb3.out.size
            clear ho3 hb3
            cases hno2 : no with
            | false =>
              have hres : T.fallP t.enc ns = none := HFP.out.trans (T.fall_stop (List.take_prefix (m + 1) ns) ⟨ns.take m, x, u, ls, Htk.out, HRU.out, HZ.out, by rw [← Hno.out, hno2]⟩)
              have Hres := Lib.hid hres
              clear hno2 hres
              go_wp2_with fail
              go_ret2
              rw [Hres.out]
              exact fallPost_lit Hb3.out
            | true =>
              have hvn : T.vldB (u.step x).enc = true := by rw [← Hno.out, hno2]
              have hfe : nr = (u.step x).enc := by rw [Hnr.out, T.fit, if_pos hvn]
              have ho3 := Ho3.out
              rw [hfe] at ho3
              obtain ⟨g2, rfl, hg2, hatn, hcn, hcmn⟩ := own_rowT ho3
              have hty2 : ∃ cur, w3.heap[g2]? = some (.cells cur 3 (0, 0)) := by
                obtain ⟨_, ⟨h, _⟩ | ⟨g, cap', cur, h, _, h2, _⟩⟩ := ho3
                · cases h
                · cases h
                  exact ⟨cur, h2⟩
              obtain ⟨cur2, hcur2⟩ := hty2
              have hwr := HB.out.size
              have Hfe := Lib.hid hfe
              have HVN := Lib.hid hvn
              have HCur := Lib.hid hcur2
              have HAT2 := Lib.hid hatn
              have HOW2 := Lib.hid ho3
              have HSN := Lib.hid (T.RunL.snoc HRU.out HZ.out hvn)
              obtain ⟨j0, hj, hy0, hy1, hy2⟩ := info_parts info_ints
              clear hno2 hvn hfe ho3 hatn hcur2
              go_wp2_with (at_builtin; refine wpList_append_own _ rfl (.tmp 58) (.tmp 60) 29 rfl w.heap.size 22 j0 (.slice none 0 0) 1 24 Try.underlying29 hj hy0 hy1 hy2 rfl (by decide) _ n vs rfl (Hout3.out.alloc _) ⟨w3.heap.size, 0, none⟩ 1 1 [.slice (some ⟨g2, 0, none⟩) nr.length c3] rfl rfl (cell_one_new _ _ _) (slice_oneCell _ _ _) (by unfold maxLen; omega) (by omega) (by simp; omega) ?_; intro v1 w5 ho1 hg1 _; obtain ⟨g5, c5, rfl⟩ := ownsRow_succ ho1; have Ho1 := Lib.hid ho1; have Hg1 := Lib.hid hg1; clear ho1 hg1)
              have hint5 : ∀ g cur, w.heap.size ≤ g → w3.heap[g]? = some (.cells cur 3 (0, 0)) → w5.heap[g]? = w3.heap[g]? := fun g cur _ h2 => by
                have hgl := (Array.getElem?_eq_some_iff.1 h2).1
                refine (Hg1.out.block g (by rw [World.size_alloc]; omega) (fun e => ?_)).trans (Below.heap_alloc _ _ _ hgl)
                rcases Hout3.out.2 with ⟨h, _⟩ | ⟨g', cap, cur', h, _, hgb, _⟩
                · rw [h] at e; cases e
                · rw [h] at e
                  cases e
                  rw [hgb] at h2
                  cases h2
              have hb2 := hint5 g2 cur2 (by omega) HCur.out
              have hfin : FsRel t ns w (m + 1) (.slice (some ⟨g2, 0, none⟩) nr.length c3) (.slice (some ⟨g5, 0, none⟩) (n + 1) c5) (.int .i64 ((m + 1 : Nat) : Int)) w5 := by
                refine ⟨by rw [H2.out.1]; omega, rfl, (Hb3.out.alloc hws _).grown Hg1.out (by simp; omega) (fun j ej => (Hout3.out.lt j ej).1), u.step x, ls ++ [u.step x], vs ++ [.slice (some ⟨g2, 0, none⟩) nr.length c3], some ⟨g5, 0, none⟩, n + 1, c5, ?_, by simp [HNL.out], rfl, Ho1.out, ?_, g2, 0, c3, by rw [Hfe.out], hcn, hcmn, fun j hj => (World.cell?_of_block hb2).trans (HAT2.out j hj)⟩
                · rw [Htk.out]; exact HSN.out
                · rw [Hfe.out]
                  exact (Hrows3.out.kept hint5).snoc (own_of_block (Joins.ownsRow_le HOW2.out hwr) hb2)
              have Hfin := Lib.hid hfin
              clear hfin hint5 hb2 hg2
              go_roundw
              case rel => exact ⟨m + 1, by have h := Hfin.out; simpa using h⟩
              case measure => simp [intOf]; omega
        · obtain hmk : m = k := by omega
          have hres := Hend.out (.inl hmk)
          have Hres := Lib.hid hres
          clear hres hmk
          go_wp2_with fail
          go_ret2
          rw [Hres.out]
          exact ⟨a, n, c, vs, rfl, HNL.out, Hout.out, Hrows.out, HB.out⟩

theorem spec_OrdFall (ao a2 : Option Addr) (len cap len2 cap2 : Nat) (xs ns : List Int) (w : World) (h : Sl w ao len cap xs) (h2 : Sl w a2 len2 cap2 ns) :
    Calls Try.prog 17 #[.slice ao len cap, .slice a2 len2 cap2] w (FallPost w (T.fallP xs ns)) := by
  rcases vld_tf xs with h1 | h1
  · by_cases h3 : len2 ≤ 3000
    · obtain ⟨b, off, t, rfl, rfl, hs, hos, hat, hn, hl, hp, hc, hm⟩ := h.valid h1
      exact spec_OrdFall_good b off len cap a2 len2 cap2 t ns w hat hn hc hm h1 h2 h3
    · rw [T.fallP_bad (.inr (.inl (by rw [h2.1]; omega)))]
      exact spec_OrdFall_bad ao a2 len cap len2 cap2 xs ns w h h2 (.inr (by omega))
  · rw [T.fallP_bad (.inl h1)]
    exact spec_OrdFall_bad ao a2 len cap len2 cap2 xs ns w h h2 (.inl h1)
theorem RowsT.below {B : Nat} {w w' : World} {vs : List Value} {ts : List T} (h : RowsT B w vs ts) (hb : Below w.heap.size w w') : RowsT B w' vs ts :=
  h.kept (fun _ _ _ hc => hb.block _ (Array.getElem?_eq_some_iff.1 hc).1)

/-- The cell of a row of rows, and the row that lies there. -/
theorem row_pick {w : World} {B B' n c k : Nat} {a : Option Addr} {vs : List Value} {ts : List T} {t : T} (ho : w.ownsRow B' 22 1 (.slice a n c) n vs) (hr : RowsT B w vs ts) (hn : n = ts.length) (ht : ts[k]? = some t) :
    ∃ g r cr, a = some ⟨g, 0, none⟩ ∧ g < w.heap.size ∧ w.cell? ⟨g, k, none⟩ = some (.slice (some ⟨r, 0, none⟩) t.enc.length cr) ∧ Sl w (some ⟨r, 0, none⟩) t.enc.length cr t.enc := by
  obtain ⟨r, cr, h1, h2⟩ := hr.2 k t.enc (by rw [List.getElem?_map, ht]; rfl)
  have hk : k < n := by rw [hn]; exact (List.getElem?_eq_some_iff.1 ht).1
  obtain ⟨ao, cap, he, hf⟩ := own_form ho
  cases he
  obtain ⟨g, rfl, hg, hc⟩ := hf (by omega)
  exact ⟨g, r, cr, rfl, hg, (hc k hk).trans h1, Sl.of_own h2⟩


end Go.Proofs.Ytdcaefgbpnjjaaa
