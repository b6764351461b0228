/- The program's grow and treeOf: a tree of nodes out of a row. -/
import Derived.Test.YtdcgcohfbcdnnaaTree
import Derived.Test.YtdcgcohfbcdnnaaHydV
import Derived.RegionTactic
import Derived.BigRegion
namespace Go.Proofs.Ytdcgcohfbcdnnaa
set_option maxRecDepth 100000
open Go.RowKit

theorem info_node : (Try.prog.info? 68).map (fun i => (i.zero, i.size, i.bytes)) = some (some (.pointer none), 1, 8) := by kernel_rfl

theorem At.older {w w' : World} {B b off : Nat} {xs : List Int} (h : At w' b off xs) (hb : Below B w w') (hB : b < B) : At w b off xs := by
  intro j hj
  rw [← hb.cell (p := ⟨b, off + j, none⟩) hB]
  exact h j hj

/-- What is read behind a place of block b. -/
def SlB (w : World) (b : Nat) (ao : Option Addr) (len cap : Nat) (xs : List Int) : Prop := xs.length = len ∧ len ≤ cap ∧ cap ≤ maxLen ∧ (0 < len → ∃ off, ao = some ⟨b, off, none⟩ ∧ At w b off xs)
theorem SlB.older {w w' : World} {B b len cap : Nat} {ao : Option Addr} {xs : List Int} (h : SlB w' b ao len cap xs) (hb : Below B w w') (hB : b < B) : SlB w b ao len cap xs :=
  ⟨h.1, h.2.1, h.2.2.1, fun hp => by obtain ⟨o, h1, h2⟩ := h.2.2.2 hp; exact ⟨o, h1, h2.older hb hB⟩⟩
theorem SlB.newer {w w' : World} {B b len cap : Nat} {ao : Option Addr} {xs : List Int} (h : SlB w b ao len cap xs) (hb : Below B w w') (hB : b < B) : SlB w' b ao len cap xs :=
  ⟨h.1, h.2.1, h.2.2.1, fun hp => by obtain ⟨o, h1, h2⟩ := h.2.2.2 hp; exact ⟨o, h1, h2.below hb hB⟩⟩

def GrowPost (b : Nat) (w : World) (f : H) (rest : List Int) (e : Ending) (w' : World) : Prop :=
  ∃ (ar : Option Addr) (cr : Nat), e = .returned (.tuple #[.pointer (some ⟨w.heap.size, 0, none⟩), .slice ar rest.length cr]) ∧ SlB w b ar rest.length cr rest ∧ Nd w' f w.heap.size w'.heap.size ∧ Below w.heap.size w w'

theorem SlB.tail {w : World} {b off len cap : Nat} {x : Int} {xs : List Int} (h : SlB w b (some ⟨b, off, none⟩) len cap (x :: xs)) : SlB w b (some ⟨b, off + 1, none⟩) (len - 1) (cap - 1) xs := by
  obtain ⟨h1, h2, h3, h4⟩ := h
  simp at h1
  obtain ⟨o', h5, h6⟩ := h4 (by omega)
  cases h5
  exact ⟨by omega, by omega, by omega, fun _ => ⟨off + 1, rfl, h6.drop 1⟩⟩
theorem SlB.last {w : World} {b len : Nat} {ao : Option Addr} {x : Int} {xs : List Int} (h : SlB w b ao len 1 (x :: xs)) : len = 1 ∧ SlB w b ao 0 0 xs := by
  obtain ⟨h1, h2, h3, h4⟩ := h
  simp at h1
  have hx : xs = [] := List.eq_nil_of_length_eq_zero (by omega)
  exact ⟨by omega, by rw [hx]; rfl, Nat.le_refl _, Nat.zero_le _, fun h => by omega⟩

theorem kept_block {w w' : World} {B e n size : Nat} {v : Value} {xs : List Value} {o X : Obj} (ho : w.ownsRow (B + 1) e size v n xs) (hg : (w.alloc o).grownBy w' v.ownBlock) (h : w.heap[B]? = some X) : w'.heap[B]? = some X := by
  have hB := (Array.getElem?_eq_some_iff.1 h).1
  rw [hg.block B (by simp; omega) (fun he => by have := (ho.lt B he.symm).1; omega), heap_alloc_old w o hB]
  exact h

def GrowRel (b : Nat) (w : World) (f : H) (rest : List Int) (v5 v14 : Value) (wr : World) : Prop :=
  ∃ (i lr cr cc : Nat) (ar a : Option Addr) (d u : H) (vs : List Value), d.app u = f ∧ d.cnt = i ∧ v14 = .int .i64 i ∧ v5 = .slice ar lr cr ∧ SlB w b ar lr cr (u.body ++ rest) ∧ w.heap.size < wr.heap.size ∧
    wr.heap[w.heap.size]? = some (.cells #[.slice a i cc] 83 (0, 0)) ∧ wr.ownsRow (w.heap.size + 1) 68 1 (.slice a i cc) i vs ∧ Kids wr d (Value.slice a i cc).ownBlock vs (w.heap.size + 1) wr.heap.size ∧ Below w.heap.size w wr

theorem GrowRel.fin {b : Nat} {w : World} {f : H} {rest : List Int} {ar : Option Addr} {lr cr i : Nat} {wr : World} (h : GrowRel b w f rest (.slice ar lr cr) (.int .i64 (i : Nat)) wr) (hi : i = f.cnt) :
    lr = rest.length ∧ GrowPost b w f rest (.returned (.tuple #[.pointer (some ⟨w.heap.size, 0, none⟩), .slice ar rest.length cr])) wr := by
  obtain ⟨i', lr', cr', cc, ar', a, d, u, vs, h1, h2, h3, h4, hsl, hsz, hnd, ho, hk, hbr⟩ := h
  simp only [Value.slice.injEq] at h4
  obtain ⟨rfl, rfl, rfl⟩ := h4
  obtain rfl : i = i' := by simp at h3; omega
  have hu : u = .z := H.cnt_zero (by have := H.app_cnt d u; rw [h1] at this; omega)
  subst hu
  have hdf : d = f := by rw [H.app_z] at h1; exact h1
  subst hdf
  have hlr : lr = rest.length := by rw [← hsl.1]; simp [H.body]
  subst hlr
  have hsl' : SlB w b ar rest.length cr rest := by simpa [H.body] using hsl
  refine ⟨rfl, ar, cr, rfl, hsl', ⟨a, cc, vs, hsz, by rw [h2]; exact hnd, by rw [h2]; exact ho, fun k hk => ?_, by rw [h2]; exact hk⟩, hbr⟩
  rw [h2] at hk
  exact (ho.lt k hk).2

set_option maxHeartbeats 4000000 in
theorem treeGrow_any (N : Nat) : ∀ (b len cap : Nat) (ao : Option Addr) (xs rest : List Int) (f : H) (w : World), f.body.length < N → xs = f.enc ++ rest → SlB w b ao len cap xs → len ≤ 60 →
    Calls Try.prog 72 #[.slice ao len cap] w (GrowPost b w f rest) := by
  induction N with
  | zero => intro b len cap ao xs rest f w h; omega
  | succ N ih =>
    intro b len cap ao xs rest f w hN hx hs hb
    obtain ⟨j0, hj, hy0, hy1, hy2⟩ := info_parts info_node
    have hlen : f.body.length + 1 + rest.length = len := by rw [← hs.1, hx, List.length_append, H.enc_len]
    have hct := H.cnt_le f
    obtain ⟨off, rfl, hat⟩ := hs.2.2.2 (by omega)
    have h0 : xs.drop 0 = (f.cnt : Int) :: (f.body ++ rest) := by rw [hx]; rfl
    have hc0 : w.cell? ⟨b, off, none⟩ = some (.int .i64 f.cnt) := by simpa using hat.get h0
    have hsx : SlB w b (some ⟨b, off, none⟩) len cap ((f.cnt : Int) :: (f.body ++ rest)) := by rw [hx] at hs; exact hs
    have hst : ∀ ar lr cr wr, SlB w b ar lr cr (f.body ++ rest) → (w.alloc (.cells #[.slice none 0 0] 83)).grownBy wr none → GrowRel b w f rest (.slice ar lr cr) (.int .i64 ((0 : Nat) : Int)) wr := by
      intro ar lr cr wr h1 h2
      have hnb : (w.alloc (.cells #[.slice none 0 0] 83)).heap[w.heap.size]? = some (.cells #[.slice none 0 0] 83 (0, 0)) := heap_alloc_new w _
      have hsz : w.heap.size + 1 ≤ wr.heap.size := by have := h2.size; simpa using this
      refine ⟨0, lr, cr, 0, ar, none, .z, f, [], rfl, rfl, rfl, rfl, h1, by omega, ?_, World.ownsRow_nil _ _ _ _, rfl, ?_⟩
      · rw [h2.block _ (by simp) (by simp)]; exact hnb
      · exact ((Below.refl _ _).alloc (Nat.le_refl _) _).grown h2 (by simp) (fun k hk => by cases hk)
    have Hst := Lib.hid hst
    have IH := Lib.hid ih
    have HN := Lib.hid hN
    obtain ⟨K, hK⟩ : ∃ K, K = f.cnt := ⟨_, rfl⟩
    rw [← hK] at hc0
    have hK60 : K ≤ 60 := by omega
    have HK := Lib.hid hK
    have hp : 0 < len := by omega
    have hbl : b < w.heap.size := World.block_lt_of_cell? w _ hc0
    by_cases hc1 : cap = 1
    · subst hc1
      obtain ⟨hl1, hlast⟩ := hsx.last
      subst hl1
      have hK0 : K = 0 := by omega
      subst hK0
      have ht := Lib.hid hlast
      have hW1 := Hst.out _ _ _ ((w.alloc (.cells #[.slice none 0 0] 83)).drew) ht.out ⟨rfl, rfl, rfl, Nat.le_refl _, fun _ _ _ => rfl⟩
      have HW1 := Lib.hid hW1
      have hcW : (w.alloc (.cells #[.slice none 0 0] 83)).drew.cell? ⟨b, off, none⟩ = some (.int .i64 ((0 : Nat) : Int)) := by
        have h9 : (w.alloc (.cells #[.slice none 0 0] 83)).cell? ⟨b, off, none⟩ = w.cell? ⟨b, off, none⟩ := World.cell?_alloc_past _ _ _ hbl
        exact h9.trans hc0
      obtain ⟨W, hW⟩ : ∃ W, W = (w.alloc (.cells #[.slice none 0 0] 83)).drew := ⟨_, rfl⟩
      rw [← hW] at HW1 hcW
      have HW := Lib.hid hW.symm
      clear hst ih hN hx hs hat h0 hsx hK hW1 hW
      go_enter Try.func72, Try.ntmps72
      go_wp2_with fail
      go_region
      rw [HW.out]
      go_wp2_with fail
      have hF := Lib.hid (HW1.out.fin (by rw [← HK.out]))
      have hr0 := Lib.hid (HW1.out.fin (by rw [← HK.out])).1
      go_loop [5, 14] (fun v5 v14 => v5 = .slice (some ⟨b, off, none⟩) 0 0 ∧ v14 = .int .i64 0) (fun _ _ => 0)
      case atStart => exact ⟨rfl, rfl⟩
      case round =>
        obtain ⟨rfl, rfl⟩ := hrel
        go_wp2_with fail
        go_ret2
        have h9 := hF.out.2
        rw [← hr0.out] at h9
        exact h9
    · have ht := Lib.hid hsx.tail
      have hW1 := Hst.out _ _ _ ((w.alloc (.cells #[.slice none 0 0] 83)).drew) ht.out ⟨rfl, rfl, rfl, Nat.le_refl _, fun _ _ _ => rfl⟩
      have HW1 := Lib.hid hW1
      have hcW : (w.alloc (.cells #[.slice none 0 0] 83)).drew.cell? ⟨b, off, none⟩ = some (.int .i64 K) := by
        have h9 : (w.alloc (.cells #[.slice none 0 0] 83)).cell? ⟨b, off, none⟩ = w.cell? ⟨b, off, none⟩ := World.cell?_alloc_past _ _ _ hbl
        exact h9.trans hc0
      obtain ⟨W, hW⟩ : ∃ W, W = (w.alloc (.cells #[.slice none 0 0] 83)).drew := ⟨_, rfl⟩
      rw [← hW] at HW1 hcW
      have HW := Lib.hid hW.symm
      clear hst ih hN hx hs hat h0 hsx hK hW1 hW
      go_enter Try.func72, Try.ntmps72
      go_wp2_with fail
      go_region
      rw [HW.out]
      go_wp2_with fail
      go_loopw [5, 14] (fun v5 v14 wr => GrowRel b w f rest v5 v14 wr) (fun _ v14 _ => K - (intOf v14).toNat)
      case atStart => exact HW1.out
      case round =>
        obtain ⟨i, lr, cr, cc, ar, a, d, u, vs, h1, h2, rfl, rfl, hsl, hsz, hnd, ho, hk, hbr⟩ := hrel
        have hci : K = i + u.cnt := by rw [HK.out, ← h1, H.app_cnt, h2]
        have hlr : lr = u.body.length + rest.length := by rw [← hsl.1, List.length_append]
        have hfb : d.body.length + u.body.length = f.body.length := by rw [← h1, H.app_body]; simp
        have xn : wr.cell? ⟨w.heap.size, 0, none⟩ = some (.slice a i cc) := Joins.cell_of_block hnd 0
        have H1 := Lib.hid h1
        have H2 := Lib.hid h2
        have Ho := Lib.hid ho
        have Hk := Lib.hid hk
        have Hnd := Lib.hid hnd
        have Hbr := Lib.hid hbr
        have Hsl := Lib.hid hsl
        by_cases hlt : i < K
        · obtain ⟨e, r, rfl⟩ : ∃ e r, u = .c e r := H.cnt_pos (by omega)
          have hbe : (H.c e r).body.length = e.enc.length + r.body.length := by rw [H.body_c]; simp
          have hel := H.enc_len e
          have hse : SlB w b ar lr cr (e.enc ++ (r.body ++ rest)) := by rw [H.body_c, List.append_assoc] at hsl; exact hsl
          have kg := Lib.hid (IH.out b lr cr ar (e.enc ++ (r.body ++ rest)) (r.body ++ rest) e wr (by have := HN.out; omega) rfl (hse.newer hbr hbl) (by omega))
          have hi60 : i ≤ 60 := by omega
          have Hci := Lib.hid hci
          clear h1 h2 ho hk hnd hsl hbr hse hci hlr hfb hbe hel hlen hct
          go_wp2_with fail
          refine (kg.out).mono ?_
          rintro ee w2 ⟨ar2, cr2, rfl, hs2, hn2, hb2⟩
          have hn2' := Hnd.out
          have xn2 : w2.cell? ⟨w.heap.size, 0, none⟩ = some (.slice a i cc) := (hb2.cell (p := ⟨w.heap.size, 0, none⟩) hsz).trans xn
          have Ho2 := Lib.hid (ownsRow_below' Ho.out hb2)
          have Hnd2 := Lib.hid (show w2.heap[w.heap.size]? = some (.cells #[.slice a i cc] 83 (0, 0)) from by rw [hb2.block _ hsz]; exact Hnd.out)
          have Hk2 := Lib.hid (Hk.out.go (row := none) ⟨hb2.os, hb2.tape, hb2.output, hb2.size, fun k hk _ => hb2.block k hk⟩ (fun k hk => by cases hk))
          have Hs2 := Lib.hid (hs2.older Hbr.out hbl)
          have Hn2 := Lib.hid hn2
          have Hb2 := Lib.hid (Hbr.out.trans (hb2.mono Hbr.out.size))
          have hs22 := hb2.size
          clear hs2 hn2 hb2 hn2'
          go_wp2_with (first
            | (at_builtin; refine wpList_append_own_at _ rfl (.tmp 25) (.tmp 27) 81 rfl (w.heap.size + 1) 68 j0 (.pointer none) 1 8 Try.underlying81 hj hy0 hy1 hy2 rfl (by decide) _ _ _ rfl (Ho2.out.alloc _) ⟨w2.heap.size, 0, none⟩ 1 1 [.pointer (some ⟨wr.heap.size, 0, none⟩)] rfl rfl (cell_one_new _ _ _) (by simp [Value.oneCell']) (by unfold maxLen; omega) (by omega) (by simp; omega) ?_; intro v3 w3 ho3 hg3 _ hat3; have Hnd3 := Lib.hid (kept_block Ho2.out hg3 Hnd2.out); have xn3 : w3.cell? ⟨w.heap.size, 0, none⟩ = some (.slice a i cc) := Joins.cell_of_block Hnd3.out 0; have fn3 : w3.frozen? ⟨w.heap.size, 0, none⟩ = false := Joins.unfrozen_of_block Hnd3.out 0; obtain ⟨a3, c3, rfl, _⟩ := own_form ho3; have Ho3 := Lib.hid ho3; have Hg3 := Lib.hid hg3; have Hat3 := Lib.hid hat3; clear ho3 hg3 hat3))
          have hfin : GrowRel b w f rest (.slice ar2 (r.body.length + rest.length) cr2) (.int .i64 ((i + 1 : Nat) : Int)) (w3.setCell ⟨w.heap.size, 0, none⟩ (.slice a3 (i + 1) c3)) := by
            have hgr : w3.grownBy (w3.setCell ⟨w.heap.size, 0, none⟩ (.slice a3 (i + 1) c3)) (some w.heap.size) := ⟨rfl, rfl, rfl, by simp [World.setCell], fun k _ hk => heap_setCell_other w3 ⟨w.heap.size, 0, none⟩ k _ (fun e => hk (by simp [e]))⟩
            have hga : w2.grownBy (w2.alloc (.cells #[.pointer (some ⟨wr.heap.size, 0, none⟩)] 68)) none := World.grownBy_alloc w2 _ none
            have hab : ∀ k, (Value.slice a i cc).ownBlock = some k → w.heap.size + 1 ≤ k ∧ k < wr.heap.size := fun k hk => Ho.out.lt k hk
            have hat := Hat3.out
            have hg3 : (w2.alloc (.cells #[.pointer (some ⟨wr.heap.size, 0, none⟩)] 68)).grownBy w3 (Value.slice a i cc).ownBlock := Hg3.out
            have hs3 : w2.heap.size + 1 ≤ w3.heap.size := by have := hg3.size; simpa using this
            have hs4 : (w3.setCell ⟨w.heap.size, 0, none⟩ (.slice a3 (i + 1) c3)).heap.size = w3.heap.size := by simp [World.setCell]
            have hk3 := (Hk2.out.go hga (fun k hk => by cases hk)).go hg3 (fun k hk => .inl hk)
            have hk4 := (hk3.go hgr (fun k hk => by cases hk; exact .inr (.inl (by omega)))).at (a' := (Value.slice a3 (i + 1) c3).ownBlock) (fun k hk => by
              rcases hat with h9 | h9
              · left; rw [← hk, h9]; rfl
              · right; rw [h9] at hk; simp at hk; omega)
            have hn4 := ((Hn2.out.go hga (fun k hk => by cases hk)).go hg3 (fun k hk => by have := hab k hk; omega)).go hgr (fun k hk => by cases hk; omega)
            have hk5 := hk4.snoc (by omega) (fun k hk => by
              rcases hat with h9 | h9
              · left; exact (hab k (by rw [← hk, h9]; rfl)).2
              · right; rw [h9] at hk; simp at hk; omega) hn4
            have hnb := Joins.block_setCell (i := 0) Hnd3.out (.slice a3 (i + 1) c3)
            refine ⟨i + 1, r.body.length + rest.length, cr2, c3, ar2, a3, d.app (.c e .z), r, vs ++ [.pointer (some ⟨wr.heap.size, 0, none⟩)], by rw [H.app_assoc]; exact H1.out, by rw [H.app_cnt, H2.out]; rfl, rfl, rfl, ?_, by omega, ?_, ?_, hk5.mono (by omega), ?_⟩
            · have h9 := Hs2.out; rw [List.length_append] at h9; exact h9
            · rw [hnb]; rfl
            · refine Ho3.out.kept hgr (.inr fun he => ?_)
              have := (Ho3.out.lt w.heap.size he).1
              omega
            · exact ((Hb2.out.alloc (by omega) _).grown hg3 (by simp; omega) (fun k hk => by have := hab k hk; omega)).setCell (p := ⟨w.heap.size, 0, none⟩) (Nat.le_refl _) _
          have Hfin := Lib.hid hfin
          clear hfin
          go_roundw
          case rel => exact Hfin.out
          case measure => simp [intOf]; omega
        · have hu : u = .z := H.cnt_zero (by omega)
          subst hu
          have hdf : d = f := by rw [H.app_z] at h1; exact h1
          subst hdf
          have hsl' : SlB w b ar rest.length cr rest := by simpa [hlr, H.body] using hsl
          have hlr' : lr = rest.length := by simpa [H.body] using hlr
          have hci' : d.cnt = i := h2
          have hnd' : Nd wr d w.heap.size wr.heap.size := by
            refine ⟨a, cc, vs, hsz, by rw [hci']; exact hnd, by rw [hci']; exact ho, fun k hk => ?_, by rw [hci']; exact hk⟩
            rw [hci'] at hk
            exact (ho.lt k hk).2
          subst hlr'
          have Hfin := Lib.hid (show GrowPost b w d rest (.returned (.tuple #[.pointer (some ⟨w.heap.size, 0, none⟩), .slice ar rest.length cr])) wr from ⟨ar, cr, rfl, hsl', hnd', hbr⟩)
          clear h1 h2 ho hk hnd hsl hbr hci hlr hfb hsl' hci' hnd' hlen hct
          go_wp2_with fail
          go_ret2
          exact Hfin.out

theorem treeOf_any (ao : Option Addr) (len cap : Nat) (f : H) (w : World) (h : Sl w ao len cap f.enc) (hl : len ≤ 60) :
    Calls Try.prog 53 #[.slice ao len cap] w fun e w' => e = .returned (.pointer (some ⟨w.heap.size, 0, none⟩)) ∧ Nd w' f w.heap.size w'.heap.size ∧ Below w.heap.size w w' := by
  have hlen : f.body.length + 1 = len := by rw [← h.1, H.enc_len]
  obtain ⟨b, off, rfl, hat⟩ := h.2.2.2 (by omega)
  have k1 := Lib.hid (treeGrow_any (f.body.length + 1) b len cap (some ⟨b, off, none⟩) f.enc [] f w (by omega) (by simp) ⟨h.1, h.2.1, h.2.2.1, fun _ => ⟨off, rfl, hat⟩⟩ hl)
  clear h hat hlen
  go_enter Try.func53, Try.ntmps53
  go_wp2_with fail
  refine (k1.out).mono ?_
  rintro ee w1 ⟨ar, cr, rfl, _, hn, hb⟩
  have Hn := Lib.hid hn
  have Hb := Lib.hid hb
  clear hn hb
  go_wp2_with fail
  go_ret
  exact ⟨rfl, Hn.out, Hb.out⟩

end Go.Proofs.Ytdcgcohfbcdnnaa
