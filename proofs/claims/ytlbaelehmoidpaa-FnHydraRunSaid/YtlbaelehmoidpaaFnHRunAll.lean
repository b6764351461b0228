/- FnHRunAll: one text out of TreeG, TreeR, HydRP, HydDel, HydRep, TreeC, HydC, HydF, HydU, HydL, HydD, DrawHc, DrawHd, HydW, HydCM, LFnHydraRun. -/
import Derived.Test.YtlbaelehmoidpaaTree
import Derived.Test.YtlbaelehmoidpaaHydV
import Derived.RegionTactic
import Derived.BigRegion
import Derived.Test.YtlbaelehmoidpaaHydK
import Derived.Test.YtlbaelehmoidpaaMake
import Derived.Test.YtlbaelehmoidpaaShelf
import Derived.Laws.CopyOwn
import Derived.Deep.RegionLaw
import Derived.Test.YtlbaelehmoidpaaHydR
import Derived.Lib.LazyBuf
import Derived.Lib.BufferWrite
import Derived.Lib.SliceRun
import Derived.Lib.AppendZerosOnto
import Derived.Shelf.Spec.SlicesInsertGrow
import Derived.Test.YtlbaelehmoidpaaPost
import Derived.Test.YtlbaelehmoidpaaHyd
import Derived.Test.YtlbaelehmoidpaaHydB
import Derived.Deep.CutBlock
import Derived.Deep.DeepCutAuto
import Derived.Test.YtlbaelehmoidpaaHydG
import Derived.Test.YtlbaelehmoidpaaRawKit
import Derived.Test.YtlbaelehmoidpaaDraw0
import Derived.Deep.LoopGhost
import Derived.Maps.AppendAt
import Derived.Test.YtlbaelehmoidpaaHydN
import Derived.Test.YtlbaelehmoidpaaNatM
import Derived.Test.YtlbaelehmoidpaaFn1
/- TreeG -/
/- The program's grow and treeOf: a tree of nodes out of a row. -/
namespace Go.Proofs.Ytlbaelehmoidpaa
set_option maxRecDepth 100000
open Go.RowKit

theorem info_node : (Try.prog.info? 46).map (fun i => (i.zero, i.size, i.bytes)) = some (some (.pointer none), 1, 8) := by kernel_rfl

theorem At.older {w w' : World} {B b off : Nat} {xs : List Int} (h : At w' b off xs) (hb : Below B w w') (hB : b < B) : At w b off xs := by
  intro j hj
  rw [← hb.cell (p := ⟨b, off + j, none⟩) hB]
  exact h j hj

/-- What is read behind a place of block b. -/
def SlB (w : World) (b : Nat) (ao : Option Addr) (len cap : Nat) (xs : List Int) : Prop := xs.length = len ∧ len ≤ cap ∧ cap ≤ maxLen ∧ (0 < len → ∃ off, ao = some ⟨b, off, none⟩ ∧ At w b off xs)
theorem SlB.older {w w' : World} {B b len cap : Nat} {ao : Option Addr} {xs : List Int} (h : SlB w' b ao len cap xs) (hb : Below B w w') (hB : b < B) : SlB w b ao len cap xs :=
  ⟨h.1, h.2.1, h.2.2.1, fun hp => by obtain ⟨o, h1, h2⟩ := h.2.2.2 hp; exact ⟨o, h1, h2.older hb hB⟩⟩
theorem SlB.newer {w w' : World} {B b len cap : Nat} {ao : Option Addr} {xs : List Int} (h : SlB w b ao len cap xs) (hb : Below B w w') (hB : b < B) : SlB w' b ao len cap xs :=
  ⟨h.1, h.2.1, h.2.2.1, fun hp => by obtain ⟨o, h1, h2⟩ := h.2.2.2 hp; exact ⟨o, h1, h2.below hb hB⟩⟩

def GrowPost (b : Nat) (w : World) (f : H) (rest : List Int) (e : Ending) (w' : World) : Prop :=
  ∃ (ar : Option Addr) (cr : Nat), e = .returned (.tuple #[.pointer (some ⟨w.heap.size, 0, none⟩), .slice ar rest.length cr]) ∧ SlB w b ar rest.length cr rest ∧ Nd w' f w.heap.size w'.heap.size ∧ Below w.heap.size w w'

theorem SlB.tail {w : World} {b off len cap : Nat} {x : Int} {xs : List Int} (h : SlB w b (some ⟨b, off, none⟩) len cap (x :: xs)) : SlB w b (some ⟨b, off + 1, none⟩) (len - 1) (cap - 1) xs := by
  obtain ⟨h1, h2, h3, h4⟩ := h
  simp at h1
  obtain ⟨o', h5, h6⟩ := h4 (by omega)
  cases h5
  exact ⟨by omega, by omega, by omega, fun _ => ⟨off + 1, rfl, h6.drop 1⟩⟩
theorem SlB.last {w : World} {b len : Nat} {ao : Option Addr} {x : Int} {xs : List Int} (h : SlB w b ao len 1 (x :: xs)) : len = 1 ∧ SlB w b ao 0 0 xs := by
  obtain ⟨h1, h2, h3, h4⟩ := h
  simp at h1
  have hx : xs = [] := List.eq_nil_of_length_eq_zero (by omega)
  exact ⟨by omega, by rw [hx]; rfl, Nat.le_refl _, Nat.zero_le _, fun h => by omega⟩

theorem kept_block {w w' : World} {B e n size : Nat} {v : Value} {xs : List Value} {o X : Obj} (ho : w.ownsRow (B + 1) e size v n xs) (hg : (w.alloc o).grownBy w' v.ownBlock) (h : w.heap[B]? = some X) : w'.heap[B]? = some X := by
  have hB := (Array.getElem?_eq_some_iff.1 h).1
  rw [hg.block B (by simp; omega) (fun he => by have := (ho.lt B he.symm).1; omega), heap_alloc_old w o hB]
  exact h

def GrowRel (b : Nat) (w : World) (f : H) (rest : List Int) (v5 v14 : Value) (wr : World) : Prop :=
  ∃ (i lr cr cc : Nat) (ar a : Option Addr) (d u : H) (vs : List Value), d.app u = f ∧ d.cnt = i ∧ v14 = .int .i64 i ∧ v5 = .slice ar lr cr ∧ SlB w b ar lr cr (u.body ++ rest) ∧ w.heap.size < wr.heap.size ∧
    wr.heap[w.heap.size]? = some (.cells #[.slice a i cc] 65 (0, 0)) ∧ wr.ownsRow (w.heap.size + 1) 46 1 (.slice a i cc) i vs ∧ Kids wr d (Value.slice a i cc).ownBlock vs (w.heap.size + 1) wr.heap.size ∧ Below w.heap.size w wr

theorem GrowRel.fin {b : Nat} {w : World} {f : H} {rest : List Int} {ar : Option Addr} {lr cr i : Nat} {wr : World} (h : GrowRel b w f rest (.slice ar lr cr) (.int .i64 (i : Nat)) wr) (hi : i = f.cnt) :
    lr = rest.length ∧ GrowPost b w f rest (.returned (.tuple #[.pointer (some ⟨w.heap.size, 0, none⟩), .slice ar rest.length cr])) wr := by
  obtain ⟨i', lr', cr', cc, ar', a, d, u, vs, h1, h2, h3, h4, hsl, hsz, hnd, ho, hk, hbr⟩ := h
  simp only [Value.slice.injEq] at h4
  obtain ⟨rfl, rfl, rfl⟩ := h4
  obtain rfl : i = i' := by simp at h3; omega
  have hu : u = .z := H.cnt_zero (by have := H.app_cnt d u; rw [h1] at this; omega)
  subst hu
  have hdf : d = f := by rw [H.app_z] at h1; exact h1
  subst hdf
  have hlr : lr = rest.length := by rw [← hsl.1]; simp [H.body]
  subst hlr
  have hsl' : SlB w b ar rest.length cr rest := by simpa [H.body] using hsl
  refine ⟨rfl, ar, cr, rfl, hsl', ⟨a, cc, vs, hsz, by rw [h2]; exact hnd, by rw [h2]; exact ho, fun k hk => ?_, by rw [h2]; exact hk⟩, hbr⟩
  rw [h2] at hk
  exact (ho.lt k hk).2

set_option maxHeartbeats 4000000 in
theorem treeGrow_any (N : Nat) : ∀ (b len cap : Nat) (ao : Option Addr) (xs rest : List Int) (f : H) (w : World), f.body.length < N → xs = f.enc ++ rest → SlB w b ao len cap xs → len ≤ 60 →
    Calls Try.prog 47 #[.slice ao len cap] w (GrowPost b w f rest) := by
  induction N with
  | zero => intro b len cap ao xs rest f w h; omega
  | succ N ih =>
    intro b len cap ao xs rest f w hN hx hs hb
    obtain ⟨j0, hj, hy0, hy1, hy2⟩ := info_parts info_node
    have hlen : f.body.length + 1 + rest.length = len := by rw [← hs.1, hx, List.length_append, H.enc_len]
    have hct := H.cnt_le f
    obtain ⟨off, rfl, hat⟩ := hs.2.2.2 (by omega)
    have h0 : xs.drop 0 = (f.cnt : Int) :: (f.body ++ rest) := by rw [hx]; rfl
    have hc0 : w.cell? ⟨b, off, none⟩ = some (.int .i64 f.cnt) := by simpa using hat.get h0
    have hsx : SlB w b (some ⟨b, off, none⟩) len cap ((f.cnt : Int) :: (f.body ++ rest)) := by rw [hx] at hs; exact hs
    have hst : ∀ ar lr cr wr, SlB w b ar lr cr (f.body ++ rest) → (w.alloc (.cells #[.slice none 0 0] 65)).grownBy wr none → GrowRel b w f rest (.slice ar lr cr) (.int .i64 ((0 : Nat) : Int)) wr := by
      intro ar lr cr wr h1 h2
      have hnb : (w.alloc (.cells #[.slice none 0 0] 65)).heap[w.heap.size]? = some (.cells #[.slice none 0 0] 65 (0, 0)) := heap_alloc_new w _
      have hsz : w.heap.size + 1 ≤ wr.heap.size := by have := h2.size; simpa using this
      refine ⟨0, lr, cr, 0, ar, none, .z, f, [], rfl, rfl, rfl, rfl, h1, by omega, ?_, World.ownsRow_nil _ _ _ _, rfl, ?_⟩
      · rw [h2.block _ (by simp) (by simp)]; exact hnb
      · exact ((Below.refl _ _).alloc (Nat.le_refl _) _).grown h2 (by simp) (fun k hk => by cases hk)
    have Hst := Lib.hid hst
    have IH := Lib.hid ih
    have HN := Lib.hid hN
    obtain ⟨K, hK⟩ : ∃ K, K = f.cnt := ⟨_, rfl⟩
    rw [← hK] at hc0
    have hK60 : K ≤ 60 := by omega
    have HK := Lib.hid hK
    have hp : 0 < len := by omega
    have hbl : b < w.heap.size := World.block_lt_of_cell? w _ hc0
    by_cases hc1 : cap = 1
    · subst hc1
      obtain ⟨hl1, hlast⟩ := hsx.last
      subst hl1
      have hK0 : K = 0 := by omega
      subst hK0
      have ht := Lib.hid hlast
      have hW1 := Hst.out _ _ _ ((w.alloc (.cells #[.slice none 0 0] 65)).drew) ht.out ⟨rfl, rfl, rfl, Nat.le_refl _, fun _ _ _ => rfl⟩
      have HW1 := Lib.hid hW1
      have hcW : (w.alloc (.cells #[.slice none 0 0] 65)).drew.cell? ⟨b, off, none⟩ = some (.int .i64 ((0 : Nat) : Int)) := by
        have h9 : (w.alloc (.cells #[.slice none 0 0] 65)).cell? ⟨b, off, none⟩ = w.cell? ⟨b, off, none⟩ := World.cell?_alloc_past _ _ _ hbl
        exact h9.trans hc0
      obtain ⟨W, hW⟩ : ∃ W, W = (w.alloc (.cells #[.slice none 0 0] 65)).drew := ⟨_, rfl⟩
      rw [← hW] at HW1 hcW
      have HW := Lib.hid hW.symm
      clear hst ih hN hx hs hat h0 hsx hK hW1 hW
      go_enter Try.func47, Try.ntmps47
      go_wp2_with fail
      go_region
      rw [HW.out]
      go_wp2_with fail
      have hF := Lib.hid (HW1.out.fin (by rw [← HK.out]))
      have hr0 := Lib.hid (HW1.out.fin (by rw [← HK.out])).1
      go_loop [5, 14] (fun v5 v14 => v5 = .slice (some ⟨b, off, none⟩) 0 0 ∧ v14 = .int .i64 0) (fun _ _ => 0)
      case atStart => exact ⟨rfl, rfl⟩
      case round =>
        obtain ⟨rfl, rfl⟩ := hrel
        go_wp2_with fail
        go_ret2
        have h9 := hF.out.2
        rw [← hr0.out] at h9
        exact h9
    · have ht := Lib.hid hsx.tail
      have hW1 := Hst.out _ _ _ ((w.alloc (.cells #[.slice none 0 0] 65)).drew) ht.out ⟨rfl, rfl, rfl, Nat.le_refl _, fun _ _ _ => rfl⟩
      have HW1 := Lib.hid hW1
      have hcW : (w.alloc (.cells #[.slice none 0 0] 65)).drew.cell? ⟨b, off, none⟩ = some (.int .i64 K) := by
        have h9 : (w.alloc (.cells #[.slice none 0 0] 65)).cell? ⟨b, off, none⟩ = w.cell? ⟨b, off, none⟩ := World.cell?_alloc_past _ _ _ hbl
        exact h9.trans hc0
      obtain ⟨W, hW⟩ : ∃ W, W = (w.alloc (.cells #[.slice none 0 0] 65)).drew := ⟨_, rfl⟩
      rw [← hW] at HW1 hcW
      have HW := Lib.hid hW.symm
      clear hst ih hN hx hs hat h0 hsx hK hW1 hW
      go_enter Try.func47, Try.ntmps47
      go_wp2_with fail
      go_region
      rw [HW.out]
      go_wp2_with fail
      go_loopw [5, 14] (fun v5 v14 wr => GrowRel b w f rest v5 v14 wr) (fun _ v14 _ => K - (intOf v14).toNat)
      case atStart => exact HW1.out
      case round =>
        obtain ⟨i, lr, cr, cc, ar, a, d, u, vs, h1, h2, rfl, rfl, hsl, hsz, hnd, ho, hk, hbr⟩ := hrel
        have hci : K = i + u.cnt := by rw [HK.out, ← h1, H.app_cnt, h2]
        have hlr : lr = u.body.length + rest.length := by rw [← hsl.1, List.length_append]
        have hfb : d.body.length + u.body.length = f.body.length := by rw [← h1, H.app_body]; simp
        have xn : wr.cell? ⟨w.heap.size, 0, none⟩ = some (.slice a i cc) := Joins.cell_of_block hnd 0
        have H1 := Lib.hid h1
        have H2 := Lib.hid h2
        have Ho := Lib.hid ho
        have Hk := Lib.hid hk
        have Hnd := Lib.hid hnd
        have Hbr := Lib.hid hbr
        have Hsl := Lib.hid hsl
        by_cases hlt : i < K
        · obtain ⟨e, r, rfl⟩ : ∃ e r, u = .c e r := H.cnt_pos (by omega)
          have hbe : (H.c e r).body.length = e.enc.length + r.body.length := by rw [H.body_c]; simp
          have hel := H.enc_len e
          have hse : SlB w b ar lr cr (e.enc ++ (r.body ++ rest)) := by rw [H.body_c, List.append_assoc] at hsl; exact hsl
          have kg := Lib.hid (IH.out b lr cr ar (e.enc ++ (r.body ++ rest)) (r.body ++ rest) e wr (by have := HN.out; omega) rfl (hse.newer hbr hbl) (by omega))
          have hi60 : i ≤ 60 := by omega
          have Hci := Lib.hid hci
          clear h1 h2 ho hk hnd hsl hbr hse hci hlr hfb hbe hel hlen hct
          go_wp2_with fail
          refine (kg.out).mono ?_
          rintro ee w2 ⟨ar2, cr2, rfl, hs2, hn2, hb2⟩
          have hn2' := Hnd.out
          have xn2 : w2.cell? ⟨w.heap.size, 0, none⟩ = some (.slice a i cc) := (hb2.cell (p := ⟨w.heap.size, 0, none⟩) hsz).trans xn
          have Ho2 := Lib.hid (ownsRow_below' Ho.out hb2)
          have Hnd2 := Lib.hid (show w2.heap[w.heap.size]? = some (.cells #[.slice a i cc] 65 (0, 0)) from by rw [hb2.block _ hsz]; exact Hnd.out)
          have Hk2 := Lib.hid (Hk.out.go (row := none) ⟨hb2.os, hb2.tape, hb2.output, hb2.size, fun k hk _ => hb2.block k hk⟩ (fun k hk => by cases hk))
          have Hs2 := Lib.hid (hs2.older Hbr.out hbl)
          have Hn2 := Lib.hid hn2
          have Hb2 := Lib.hid (Hbr.out.trans (hb2.mono Hbr.out.size))
          have hs22 := hb2.size
          clear hs2 hn2 hb2 hn2'
          go_wp2_with (first
            | (at_builtin; refine wpList_append_own_at _ rfl (.tmp 25) (.tmp 27) 63 rfl (w.heap.size + 1) 46 j0 (.pointer none) 1 8 Try.underlying63 hj hy0 hy1 hy2 rfl (by decide) _ _ _ rfl (Ho2.out.alloc _) ⟨w2.heap.size, 0, none⟩ 1 1 [.pointer (some ⟨wr.heap.size, 0, none⟩)] rfl rfl (cell_one_new _ _ _) (by simp [Value.oneCell']) (by unfold maxLen; omega) (by omega) (by simp; omega) ?_; intro v3 w3 ho3 hg3 _ hat3; have Hnd3 := Lib.hid (kept_block Ho2.out hg3 Hnd2.out); have xn3 : w3.cell? ⟨w.heap.size, 0, none⟩ = some (.slice a i cc) := Joins.cell_of_block Hnd3.out 0; have fn3 : w3.frozen? ⟨w.heap.size, 0, none⟩ = false := Joins.unfrozen_of_block Hnd3.out 0; obtain ⟨a3, c3, rfl, _⟩ := own_form ho3; have Ho3 := Lib.hid ho3; have Hg3 := Lib.hid hg3; have Hat3 := Lib.hid hat3; clear ho3 hg3 hat3))
          have hfin : GrowRel b w f rest (.slice ar2 (r.body.length + rest.length) cr2) (.int .i64 ((i + 1 : Nat) : Int)) (w3.setCell ⟨w.heap.size, 0, none⟩ (.slice a3 (i + 1) c3)) := by
            have hgr : w3.grownBy (w3.setCell ⟨w.heap.size, 0, none⟩ (.slice a3 (i + 1) c3)) (some w.heap.size) := ⟨rfl, rfl, rfl, by simp [World.setCell], fun k _ hk => heap_setCell_other w3 ⟨w.heap.size, 0, none⟩ k _ (fun e => hk (by simp [e]))⟩
            have hga : w2.grownBy (w2.alloc (.cells #[.pointer (some ⟨wr.heap.size, 0, none⟩)] 46)) none := World.grownBy_alloc w2 _ none
            have hab : ∀ k, (Value.slice a i cc).ownBlock = some k → w.heap.size + 1 ≤ k ∧ k < wr.heap.size := fun k hk => Ho.out.lt k hk
            have hat := Hat3.out
            have hg3 : (w2.alloc (.cells #[.pointer (some ⟨wr.heap.size, 0, none⟩)] 46)).grownBy w3 (Value.slice a i cc).ownBlock := Hg3.out
            have hs3 : w2.heap.size + 1 ≤ w3.heap.size := by have := hg3.size; simpa using this
            have hs4 : (w3.setCell ⟨w.heap.size, 0, none⟩ (.slice a3 (i + 1) c3)).heap.size = w3.heap.size := by simp [World.setCell]
            have hk3 := (Hk2.out.go hga (fun k hk => by cases hk)).go hg3 (fun k hk => .inl hk)
            have hk4 := (hk3.go hgr (fun k hk => by cases hk; exact .inr (.inl (by omega)))).at (a' := (Value.slice a3 (i + 1) c3).ownBlock) (fun k hk => by
              rcases hat with h9 | h9
              · left; rw [← hk, h9]; rfl
              · right; rw [h9] at hk; simp at hk; omega)
            have hn4 := ((Hn2.out.go hga (fun k hk => by cases hk)).go hg3 (fun k hk => by have := hab k hk; omega)).go hgr (fun k hk => by cases hk; omega)
            have hk5 := hk4.snoc (by omega) (fun k hk => by
              rcases hat with h9 | h9
              · left; exact (hab k (by rw [← hk, h9]; rfl)).2
              · right; rw [h9] at hk; simp at hk; omega) hn4
            have hnb := Joins.block_setCell (i := 0) Hnd3.out (.slice a3 (i + 1) c3)
            refine ⟨i + 1, r.body.length + rest.length, cr2, c3, ar2, a3, d.app (.c e .z), r, vs ++ [.pointer (some ⟨wr.heap.size, 0, none⟩)], by rw [H.app_assoc]; exact H1.out, by rw [H.app_cnt, H2.out]; rfl, rfl, rfl, ?_, by omega, ?_, ?_, hk5.mono (by omega), ?_⟩
            · have h9 := Hs2.out; rw [List.length_append] at h9; exact h9
            · rw [hnb]; rfl
            · refine Ho3.out.kept hgr (.inr fun he => ?_)
              have := (Ho3.out.lt w.heap.size he).1
              omega
            · exact ((Hb2.out.alloc (by omega) _).grown hg3 (by simp; omega) (fun k hk => by have := hab k hk; omega)).setCell (p := ⟨w.heap.size, 0, none⟩) (Nat.le_refl _) _
          have Hfin := Lib.hid hfin
          clear hfin
          go_roundw
          case rel => exact Hfin.out
          case measure => simp [intOf]; omega
        · have hu : u = .z := H.cnt_zero (by omega)
          subst hu
          have hdf : d = f := by rw [H.app_z] at h1; exact h1
          subst hdf
          have hsl' : SlB w b ar rest.length cr rest := by simpa [hlr, H.body] using hsl
          have hlr' : lr = rest.length := by simpa [H.body] using hlr
          have hci' : d.cnt = i := h2
          have hnd' : Nd wr d w.heap.size wr.heap.size := by
            refine ⟨a, cc, vs, hsz, by rw [hci']; exact hnd, by rw [hci']; exact ho, fun k hk => ?_, by rw [hci']; exact hk⟩
            rw [hci'] at hk
            exact (ho.lt k hk).2
          subst hlr'
          have Hfin := Lib.hid (show GrowPost b w d rest (.returned (.tuple #[.pointer (some ⟨w.heap.size, 0, none⟩), .slice ar rest.length cr])) wr from ⟨ar, cr, rfl, hsl', hnd', hbr⟩)
          clear h1 h2 ho hk hnd hsl hbr hci hlr hfb hsl' hci' hnd' hlen hct
          go_wp2_with fail
          go_ret2
          exact Hfin.out

theorem treeOf_any (ao : Option Addr) (len cap : Nat) (f : H) (w : World) (h : Sl w ao len cap f.enc) (hl : len ≤ 60) :
    Calls Try.prog 27 #[.slice ao len cap] w fun e w' => e = .returned (.pointer (some ⟨w.heap.size, 0, none⟩)) ∧ Nd w' f w.heap.size w'.heap.size ∧ Below w.heap.size w w' := by
  have hlen : f.body.length + 1 = len := by rw [← h.1, H.enc_len]
  obtain ⟨b, off, rfl, hat⟩ := h.2.2.2 (by omega)
  have k1 := Lib.hid (treeGrow_any (f.body.length + 1) b len cap (some ⟨b, off, none⟩) f.enc [] f w (by omega) (by simp) ⟨h.1, h.2.1, h.2.2.1, fun _ => ⟨off, rfl, hat⟩⟩ hl)
  clear h hat hlen
  go_enter Try.func27, Try.ntmps27
  go_wp2_with fail
  refine (k1.out).mono ?_
  rintro ee w1 ⟨ar, cr, rfl, _, hn, hb⟩
  have Hn := Lib.hid hn
  have Hb := Lib.hid hb
  clear hn hb
  go_wp2_with fail
  go_ret
  exact ⟨rfl, Hn.out, Hb.out⟩

end Go.Proofs.Ytlbaelehmoidpaa

/- TreeR -/
/- What is read of nodes: isHead, heads, row. -/
namespace Go.Proofs.Ytlbaelehmoidpaa
set_option maxRecDepth 100000
open Go.RowKit

theorem node_isHead (f : H) (p m : Nat) (w : World) (h : Nd w f p m) :
    Calls Try.prog 49 #[.pointer (some ⟨p, 0, none⟩)] w fun e w' => e = .returned (.bool ((f.cnt : Int) == 0)) ∧ w = w' := by
  obtain ⟨ao, c, us, q1, q2, q3, q4, q5⟩ := h
  have xp : w.cell? ⟨p, 0, none⟩ = some (.slice ao f.cnt c) := Joins.cell_of_block q2 0
  obtain ⟨K, hK⟩ : ∃ K, K = f.cnt := ⟨_, rfl⟩
  rw [← hK] at xp ⊢
  clear q2 q3 q4 q5 hK
  go_enter Try.func49, Try.ntmps49
  go_wp2_with fail
  go_ret
  exact ⟨rfl, rfl⟩

theorem H.noughts_snocF (d k : H) : H.noughts (d.app (.c k .z)).body = H.noughts d.body + H.noughts k.enc := by
  rw [H.app_body, H.body_c, H.noughts_app, H.noughts_app]; simp [H.body, H.noughts]
theorem H.heads_pos' {f : H} (h : f ≠ .z) : H.heads f = (H.noughts f.body : Int) := by
  unfold H.heads
  have : f.cnt ≠ 0 := fun e => h (H.cnt_zero e)
  rw [H.enc, H.noughts, if_neg (by omega)]; simp

set_option maxHeartbeats 2000000 in
theorem node_heads (N : Nat) : ∀ (f : H) (p m : Nat) (w : World), f.body.length < N → f.body.length ≤ 1000 → Nd w f p m →
    Calls Try.prog 48 #[.pointer (some ⟨p, 0, none⟩)] w fun e w' => e = .returned (.int .i64 (H.heads f)) ∧ w = w' := by
  induction N with
  | zero => intro f p m w h; omega
  | succ N ih =>
    intro f p m w hN hl hnd
    have k1 := Lib.hid (node_isHead f p m w hnd)
    obtain ⟨ao, c, us, q1, q2, q3, q4, q5⟩ := hnd
    have hct := H.cnt_le f
    have xp : w.cell? ⟨p, 0, none⟩ = some (.slice ao f.cnt c) := Joins.cell_of_block q2 0
    by_cases hz : f = .z
    · subst hz
      have h1 : H.heads .z = 1 := rfl
      rw [h1]
      have h2 : (((H.z).cnt : Int) == 0) = true := rfl
      rw [h2] at k1
      clear q2 q3 q4 q5 ih hN hl hct h1 h2
      go_enter Try.func48, Try.ntmps48
      go_wp2_with fail
      refine (k1.out).mono ?_
      rintro ee w' ⟨rfl, rfl⟩
      go_wp2_with fail
      go_ret
      exact ⟨rfl, rfl⟩
    · have h2 : ((f.cnt : Int) == 0) = false := beq_eq_false_iff_ne.2 (fun e => hz (H.cnt_zero (by omega)))
      rw [h2] at k1
      rw [H.heads_pos' hz]
      obtain ⟨K, hK⟩ : ∃ K, K = f.cnt := ⟨_, rfl⟩
      rw [← hK] at xp q3
      have hK1 : K ≤ 1000 := by omega
      obtain ⟨tot, htot⟩ : ∃ t, t = H.noughts f.body := ⟨_, rfl⟩
      have htl : tot ≤ 1000 := by rw [htot]; exact Nat.le_trans (H.noughts_le _) hl
      rw [← htot]
      have IH := Lib.hid ih
      have HN := Lib.hid hN
      have HK := Lib.hid hK
      have Hl := Lib.hid hl
      have Ht := Lib.hid htot
      have Hq3 := Lib.hid q3
      have Hq5 := Lib.hid q5
      clear ih hN hK hl htot q2 q3 q4 q5 hct h2
      go_enter Try.func48, Try.ntmps48
      go_wp2_with fail
      refine (k1.out).mono ?_
      rintro ee w' ⟨rfl, rfl⟩
      go_wp2_with fail
      go_loop [3, 13] (fun v3 v13 => ∃ (i n : Nat) (d u : H), Hid (d.app u = f ∧ d.cnt = i ∧ n = H.noughts d.body) ∧ n ≤ tot ∧ i + u.cnt = K ∧ v3 = .int .i64 n ∧ v13 = .int .i64 i) (fun _ v13 => K - (intOf v13).toNat)
      case atStart => exact ⟨0, 0, .z, f, ⟨rfl, rfl, rfl⟩, Nat.zero_le _, by rw [HK.out]; simp, rfl, rfl⟩
      case round =>
        obtain ⟨i, n, d, u, HU, hn, hci, rfl, rfl⟩ := hrel
        by_cases hlt : i < K
        · obtain ⟨k, r, rfl⟩ : ∃ k r, u = .c k r := H.cnt_pos (by omega)
          obtain ⟨h1, h2, h3⟩ := HU.out
          obtain ⟨q, mq, x1, x2, x3, x4, x5⟩ := Hq5.out.pick h1 h2
          obtain ⟨ga, ca, hva⟩ := Joins.ownsRow_form Hq3.out (by omega)
          simp only [Value.slice.injEq, true_and] at hva
          obtain ⟨rfl, rfl⟩ := hva
          have y1 : w.cell? ⟨ga, i, none⟩ = some (.pointer (some ⟨q, 0, none⟩)) := (Hq3.out.cellAt i (by omega)).trans x1
          have hbody : d.body.length + (k.body.length + 1 + r.body.length) = f.body.length := by rw [← h1, H.app_body, List.length_append, H.body_c, List.length_append, H.enc_len]
          have kn := Lib.hid (IH.out k q mq w (by have := HN.out; omega) (by have := Hl.out; omega) x5)
          have hsum : n + H.noughts k.enc ≤ tot := by
            have e1 : f.body = d.body ++ (k.enc ++ r.body) := by rw [← h1, H.app_body, H.body_c]
            have e2 := congrArg H.noughts e1
            rw [H.noughts_app, H.noughts_app, ← h3, ← Ht.out] at e2
            omega
          obtain ⟨hk, hhk⟩ : ∃ hk : Nat, hk = H.noughts k.enc := ⟨_, rfl⟩
          have hkk : H.heads k = (hk : Int) := by rw [hhk]; rfl
          rw [hkk] at kn
          rw [← hhk] at hsum
          have Hsn := Lib.hid (show n + hk = H.noughts (d.app (.c k .z)).body by rw [H.noughts_snocF, ← h3, hhk])
          have Hci := Lib.hid hci
          clear h1 h2 h3 x1 x2 x3 x4 x5 hbody hhk hkk hci
          go_wp2_with fail
          refine (kn.out).mono ?_
          rintro ee w' ⟨rfl, rfl⟩
          go_wp2_with fail
          go_round
          case rel =>
            obtain ⟨h1, h2, h3⟩ := HU.out
            exact ⟨i + 1, n + hk, d.app (.c k .z), r, ⟨by rw [H.app_assoc]; exact h1, by rw [H.app_cnt, h2]; rfl, Hsn.out⟩, hsum, by have := Hci.out; simp only [H.cnt] at this; omega, by go_num, by go_num⟩
          case measure => simp [intOf]; omega
        · obtain ⟨h1, h2, h3⟩ := HU.out
          have hu : u = .z := H.cnt_zero (by omega)
          subst hu
          have hdf : d = f := by rw [H.app_z] at h1; exact h1
          have hfin : n = tot := by rw [h3, Ht.out, hdf]
          have Hf := Lib.hid hfin
          clear h1 h2 h3 hci hdf hfin
          go_wp2_with fail
          go_ret
          exact ⟨ret_int (by rw [Hf.out]), rfl⟩

/-- What can be read of nodes, wherever they lie: one node may stand at several places. -/
def RK (w : World) : H → List Value → Prop
  | .z, vs => vs = []
  | .c k r, vs => ∃ (p : Nat) (ao : Option Addr) (c : Nat) (us vs' : List Value), vs = .pointer (some ⟨p, 0, none⟩) :: vs' ∧ w.cell? ⟨p, 0, none⟩ = some (.slice ao k.cnt c) ∧
      (0 < k.cnt → ∃ g, ao = some ⟨g, 0, none⟩ ∧ g < w.heap.size ∧ ∀ j, j < k.cnt → w.cell? ⟨g, j, none⟩ = us[j]?) ∧ RK w k us ∧ RK w r vs'
def RNd (w : World) (f : H) (p : Nat) : Prop :=
  ∃ (ao : Option Addr) (c : Nat) (us : List Value), w.cell? ⟨p, 0, none⟩ = some (.slice ao f.cnt c) ∧ (0 < f.cnt → ∃ g, ao = some ⟨g, 0, none⟩ ∧ g < w.heap.size ∧ ∀ j, j < f.cnt → w.cell? ⟨g, j, none⟩ = us[j]?) ∧ RK w f us

theorem RK.cons {w : World} {k r : H} {vs : List Value} : RK w (.c k r) vs ↔ ∃ (p : Nat) (vs' : List Value), vs = .pointer (some ⟨p, 0, none⟩) :: vs' ∧ RNd w k p ∧ RK w r vs' := by
  constructor
  · rintro ⟨p, ao, c, us, vs', h1, h2, h3, h4, h5⟩; exact ⟨p, vs', h1, ⟨ao, c, us, h2, h3, h4⟩, h5⟩
  · rintro ⟨p, vs', h1, ⟨ao, c, us, h2, h3, h4⟩, h5⟩; exact ⟨p, ao, c, us, vs', h1, h2, h3, h4, h5⟩

theorem RK.below {w w' : World} {f : H} {vs : List Value} (h : RK w f vs) (hb : Below w.heap.size w w') : RK w' f vs := by
  induction f generalizing vs with
  | z => exact h
  | c k r ihk ihr =>
    obtain ⟨p, ao, c, us, vs', h1, h2, h3, h4, h5⟩ := h
    refine ⟨p, ao, c, us, vs', h1, (hb.cell (p := ⟨p, 0, none⟩) (World.block_lt_of_cell? w _ h2)).trans h2, fun hp => ?_, ihk h4, ihr h5⟩
    obtain ⟨g, q1, q2, q3⟩ := h3 hp
    exact ⟨g, q1, Nat.lt_of_lt_of_le q2 hb.size, fun j hj => (hb.cell (p := ⟨g, j, none⟩) q2).trans (q3 j hj)⟩
theorem RNd.below {w w' : World} {f : H} {p : Nat} (h : RNd w f p) (hb : Below w.heap.size w w') : RNd w' f p := by
  obtain ⟨ao, c, us, h2, h3, h4⟩ := h
  refine ⟨ao, c, us, (hb.cell (p := ⟨p, 0, none⟩) (World.block_lt_of_cell? w _ h2)).trans h2, fun hp => ?_, h4.below hb⟩
  obtain ⟨g, q1, q2, q3⟩ := h3 hp
  exact ⟨g, q1, Nat.lt_of_lt_of_le q2 hb.size, fun j hj => (hb.cell (p := ⟨g, j, none⟩) q2).trans (q3 j hj)⟩

theorem own_cells {w : World} {B n c : Nat} {ao : Option Addr} {e : TypeId} {us : List Value} (h : w.ownsRow B e 1 (.slice ao n c) n us) : 0 < n → ∃ g, ao = some ⟨g, 0, none⟩ ∧ g < w.heap.size ∧ ∀ j, j < n → w.cell? ⟨g, j, none⟩ = us[j]? := by
  intro hp
  obtain ⟨g, c', hv⟩ := Joins.ownsRow_form h hp
  simp only [Value.slice.injEq, true_and] at hv
  obtain ⟨rfl, rfl⟩ := hv
  exact ⟨g, rfl, (h.lt g rfl).2, fun j hj => h.cellAt j (by omega)⟩

theorem Kids.rk {w : World} {f : H} {a : Option Nat} {vs : List Value} {lo hi : Nat} (h : Kids w f a vs lo hi) : RK w f vs := by
  induction f generalizing a vs lo hi with
  | z => exact h
  | c k r ihk ihr =>
    obtain ⟨p, m, ao, c, us, vs', h1, h2, h3, h4, h5, h6, h7, h8, h9, h10⟩ := h
    exact ⟨p, ao, c, us, vs', h1, Joins.cell_of_block h6 0, own_cells h7, ihk h9, ihr h10⟩
theorem Nd.rnd {w : World} {f : H} {p m : Nat} (h : Nd w f p m) : RNd w f p := by
  obtain ⟨ao, c, us, q1, q2, q3, q4, q5⟩ := h
  exact ⟨ao, c, us, Joins.cell_of_block q2 0, own_cells q3, q5.rk⟩

theorem RK.pick {w : World} {t d e r : H} {vs : List Value} {i : Nat} (h : RK w t vs) (h1 : d.app (.c e r) = t) (h2 : d.cnt = i) : ∃ p, vs[i]? = some (.pointer (some ⟨p, 0, none⟩)) ∧ RNd w e p := by
  induction d generalizing t vs i with
  | z =>
    subst h1; subst h2
    obtain ⟨p, vs', rfl, q4, q5⟩ := RK.cons.1 h
    exact ⟨p, rfl, q4⟩
  | c k q _ ih =>
    subst h1; subst h2
    obtain ⟨p, vs', rfl, q4, q5⟩ := RK.cons.1 h
    obtain ⟨p', k1, k2⟩ := ih q5 rfl rfl
    exact ⟨p', by simp only [H.cnt, List.getElem?_cons_succ]; exact k1, k2⟩

set_option maxHeartbeats 2000000 in
theorem node_row (N : Nat) : ∀ (f : H) (p : Nat) (w : World), f.body.length < N → f.enc.length ≤ 10000 → RNd w f p →
    Calls Try.prog 29 #[.pointer (some ⟨p, 0, none⟩)] w (RowPost w f.enc) := by
  induction N with
  | zero => intro f p w h; omega
  | succ N ih =>
    intro f p w hN hl hnd
    obtain ⟨i0, hi, hz0, hz1, hz2⟩ := info_parts info_int
    obtain ⟨ao, c, us, xp, q3, q5⟩ := hnd
    have hct := H.cnt_le f
    have hel := H.enc_len f
    have hpl : p < w.heap.size := World.block_lt_of_cell? w _ xp
    obtain ⟨K, hK⟩ : ∃ K, K = f.cnt := ⟨_, rfl⟩
    rw [← hK] at xp q3
    have hK1 : K ≤ 10000 := by omega
    have xp2 : (w.alloc (.cells #[.int .i64 K] 3)).cell? ⟨p, 0, none⟩ = some (.slice ao K c) := by rw [World.cell?_alloc_past _ _ _ hpl]; exact xp
    obtain ⟨rf, hrf⟩ : ∃ rf, rf = f.enc := ⟨_, rfl⟩
    rw [← hrf]
    have Hrf := Lib.hid hrf
    have IH := Lib.hid ih
    have HN := Lib.hid hN
    have HK := Lib.hid hK
    have Hl := Lib.hid hl
    have Hq3 := Lib.hid q3
    have Hq5 := Lib.hid q5
    clear ih hN hK hl q3 q5 hct hel hrf
    go_enter Try.func29, Try.ntmps29
    go_wp2_with fail
    go_loopw [3, 17] (fun v3 v17 wr => ∃ (i mm : Nat) (d u : H) (a3 : Option Addr) (c3 : Nat), Hid (d.app u = f ∧ d.cnt = i ∧ mm = 1 + d.body.length ∧ mm + u.body.length = f.enc.length) ∧ i + u.cnt = K ∧ v17 = .int .i64 i ∧ v3 = .slice a3 mm c3 ∧ wr.ownsRow w.heap.size 3 1 v3 mm (ints ((K : Int) :: d.body)) ∧ Below w.heap.size w wr) (fun _ i _ => K - (intOf i).toNat)
    case atStart => exact ⟨0, 1, .z, f, _, _, ⟨rfl, rfl, rfl, by rw [H.enc_len]; omega⟩, by rw [HK.out]; simp, rfl, rfl, World.ownsRow_lit w _ 1 (Nat.le_refl _) (by simp [maxLen]) rfl, (Below.refl _ _).alloc (Nat.le_refl _) _⟩
    case round =>
      obtain ⟨i, mm, d, u, a3, c3, HU, hci, rfl, rfl, ho, hbr⟩ := hrel
      by_cases hlt : i < K
      · obtain ⟨k, r, rfl⟩ : ∃ k r, u = .c k r := H.cnt_pos (by omega)
        obtain ⟨h1, h2, h3, h4⟩ := HU.out
        obtain ⟨q, x1, x5⟩ := Hq5.out.pick h1 h2
        obtain ⟨ga, rfl, hgl, hcs⟩ := Hq3.out (by omega)
        have y1 : wr.cell? ⟨ga, i, none⟩ = some (.pointer (some ⟨q, 0, none⟩)) := (hbr.cell (p := ⟨ga, i, none⟩) hgl).trans ((hcs i hlt).trans x1)
        have hbody : d.body.length + (k.body.length + 1 + r.body.length) = f.body.length := by rw [← h1, H.app_body, List.length_append, H.body_c, List.length_append, H.enc_len]
        have hke := H.enc_len k
        have hfe := H.enc_len f
        have hle := Hl.out
        have kn := Lib.hid (IH.out k q wr (by have := HN.out; omega) (by omega) (x5.below hbr))
        unfold RowPost at kn
        obtain ⟨L, hL⟩ : ∃ L, L = k.enc.length := ⟨_, rfl⟩
        have hml : mm + L + r.body.length = f.enc.length := by rw [H.body_c, List.length_append] at h4; omega
        have hmb : mm + L ≤ 10000 := by omega
        have hL1 : 1 ≤ L := by omega
        rw [← hL] at kn
        have HLk := Lib.hid hL
        have Hml := Lib.hid hml
        have Hci := Lib.hid hci
        have Ho := Lib.hid ho
        have Hbr := Lib.hid hbr
        clear h1 h2 h3 h4 hci hcs x1 x5 hbody hke hfe hle hL hml ho hbr
        go_wp2_with (first
          | (go_at_call 29; (with_reducible refine (kn.out).mono ?_); rintro ee w2 ⟨a8, c8, rfl, ho8, hb8⟩; have Ho2 := Lib.hid (ownsRow_below' Ho.out hb8); have Hb2 := Lib.hid (Hbr.out.trans (hb8.mono Hbr.out.size)); have hs2 := Hb2.out.size; obtain ⟨g8, c8', hv8⟩ := Joins.ownsRow_form ho8 (by omega); simp only [Value.slice.injEq, true_and] at hv8; obtain ⟨rfl, rfl⟩ := hv8; have Hn8 := Lib.hid (ho8.cells (g := g8) rfl); have Hl8 := Lib.hid (show (ints k.enc).length = L * 1 from ho8.1); clear ho8 hb8)
          | (at_builtin; refine wpList_append_own _ rfl (.tmp 21) (.tmp 23) 23 rfl w.heap.size 3 i0 (.int .i64 0) 1 8 Try.underlying23 hi hz0 hz1 hz2 rfl (by decide) _ _ _ rfl Ho2.out ⟨g8, 0, none⟩ L c8 (ints k.enc) rfl Hl8.out Hn8.out (ints_one _) (by unfold maxLen; omega) (by omega) (by omega) ?_; intro v6 w3 ho3 hg3 _))
        obtain ⟨a6, c6, rfl, _⟩ := own_form ho3
        have hb3 := Hb2.out.grown hg3 (by omega) (fun q hq => (Ho2.out.lt q hq).1)
        have ho4 : w3.ownsRow w.heap.size 3 1 (.slice a6 (mm + L) c6) (mm + L) (ints ((K : Int) :: (d.app (.c k .z)).body)) := by
          have e1 : ints ((K : Int) :: (d.app (.c k .z)).body) = ints ((K : Int) :: d.body) ++ ints k.enc := by
            rw [H.app_body, H.body_c]; simp [ints, H.body]
          rw [e1]; exact ho3
        have Ho4 := Lib.hid ho4
        have Hb3 := Lib.hid hb3
        clear ho3 hg3 ho4 hb3
        go_roundw
        case rel =>
          obtain ⟨h1, h2, h3, h4⟩ := HU.out
          refine ⟨i + 1, mm + L, d.app (.c k .z), r, a6, c6, ⟨by rw [H.app_assoc]; exact h1, by rw [H.app_cnt, h2]; rfl, ?_, Hml.out⟩, by have := Hci.out; simp only [H.cnt] at this; omega, by go_num, rfl, Ho4.out, Hb3.out⟩
          rw [H.app_body, H.body_c, HLk.out]; simp [H.body]; omega
        case measure => simp [intOf]; omega
      · obtain ⟨h1, h2, h3, h4⟩ := HU.out
        have hu : u = .z := H.cnt_zero (by omega)
        subst hu
        have hdf : d = f := by rw [H.app_z] at h1; exact h1
        subst hdf
        have hmf : mm = d.enc.length := by simpa [H.body] using h4
        have hp : RowPost w rf (.returned (.slice a3 mm c3)) wr := by
          rw [Hrf.out]
          refine ⟨a3, c3, by rw [hmf], ?_, hbr⟩
          rw [← hmf]
          have e1 : d.enc = (K : Int) :: d.body := by rw [HK.out]; rfl
          rw [e1]
          exact ho
        have Hp := Lib.hid hp
        clear h1 h2 h3 h4 hci hmf ho hbr hp
        go_wp2_with fail
        go_ret
        exact Hp.out

end Go.Proofs.Ytlbaelehmoidpaa

/- HydRP -/
/- slices.Repeat at pointers to nodes (HydR's text, turned). -/
namespace Go.Proofs.Ytlbaelehmoidpaa
set_option maxRecDepth 100000
open Go.RowKit

theorem repP_made {w : World} {B N g : Nat} (h : w.ownsRow B 46 1 (.slice (some ⟨g, 0, none⟩) N N) N (madeCells (Value.pointer none).cells (N * 1)).toList) : w.heap[g]? = some (.cells (List.replicate N (Value.pointer none)).toArray 46 (0, 0)) := by
  rw [Nat.mul_one, show (Value.pointer none).cells = #[Value.pointer none] from rfl, toList_madeCells_one] at h
  exact own_tight h

def RepPRel (w : World) (vs : List Value) (n k : Nat) (v8 : Value) (wr : World) : Prop :=
  ∃ (q m : Nat) (zs : List Value), m = n * q ∧ 1 ≤ q ∧ q ≤ k ∧ v8 = .int .i64 m ∧ ((Rp k vs).take m ++ zs).length = n * k ∧ wr.heap[w.heap.size]? = some (.cells ((Rp k vs).take m ++ zs).toArray 46 (0, 0)) ∧ Below w.heap.size w wr

set_option maxHeartbeats 2000000 in
theorem repeatP_any (b off n cap k : Nat) (vs : List Value) (w : World) (hvl : vs.length = n) (hp : 1 ≤ n) (hk : 1 ≤ k) (hb : n * k ≤ 1000) (hone : ∀ u ∈ vs, u.oneCell' = true) (hnews : ∀ j u, vs[j]? = some u → w.cell? ((⟨b, off, none⟩ : Addr).add j) = some u) (hbw : b < w.heap.size) :
    Calls Try.prog 51 #[.slice (some ⟨b, off, none⟩) n cap, .int .i64 k] w fun e w' => e = .returned (.slice (some ⟨w.heap.size, 0, none⟩) (n * k) (n * k)) ∧
      w'.ownsRow w.heap.size 46 1 (.slice (some ⟨w.heap.size, 0, none⟩) (n * k) (n * k)) (n * k) (Rp k vs) ∧ Below w.heap.size w w' := by
  obtain ⟨i0, hi, hz0, hz1, hz2⟩ := info_parts info_node
  have hsz : (Try.prog.info? 46).map (·.size) = some 1 := by rw [hi]; simp [hz1]
  have hn1 : n ≤ 1000 := by
    have := Nat.mul_le_mul (Nat.le_refl n) hk
    omega
  have hk1 : k ≤ 1000 := by
    have := Nat.mul_le_mul hp (Nat.le_refl k)
    omega
  have km := Lib.hid (fun w => Try.bits_Mul n k (by omega) (by omega) w)
  rw [show n * k / 18446744073709551616 = 0 from Nat.div_eq_of_lt (by omega), show n * k % 18446744073709551616 = n * k from Nat.mod_eq_of_lt (by omega)] at km
  have hRl : (Rp k vs).length = n * k := by rw [Rp_len, hvl]
  have hR0 : (Rp k vs).take n = vs := by
    obtain ⟨k', rfl⟩ : ∃ k', k = k' + 1 := ⟨k - 1, by omega⟩
    rw [Rp, List.take_append_of_le_length (by omega), List.take_of_length_le (by omega)]
  have hstep : ∀ q c : Nat, q ≤ k → c ≤ n * (k - q) → (Rp k vs).take (n * q) ++ (Rp k vs).take c = (Rp k vs).take (n * q + c) := by
    intro q c h1 h2
    have := Rp_take (k := k) (q := q) (c := c) (xs := vs) h1 (by rw [hvl]; exact h2)
    rw [hvl] at this
    exact this
  have honeR : ∀ j, ∀ u ∈ (Rp k vs).take j, u.oneCell' = true := fun j u hu => hone u (Rp_mem (List.mem_of_mem_take hu))
  obtain ⟨N, hN⟩ : ∃ N, N = n * k := ⟨_, rfl⟩
  have hnN : n ≤ N := by rw [hN]; exact Nat.le_mul_of_pos_right n hk
  have hmin : Nat.min n N = n := Nat.min_eq_left hnN
  rw [← hN] at km hRl hb ⊢
  obtain ⟨g, hg⟩ : ∃ g, g = w.heap.size := ⟨_, rfl⟩
  have hst : ∀ wr, Hid (wr.heap[g]? = some (.cells (splice (List.replicate N (Value.pointer none)) 0 vs).toArray 46 (0, 0))) → Below g w wr → RepPRel w vs n k (.int .i64 (vs.length : Nat)) wr := by
    intro wr h1 h2
    refine ⟨1, n, List.replicate (N - n) (.pointer none), by omega, Nat.le_refl _, hk, by rw [hvl], ?_, ?_, by rw [← hg]; exact h2⟩
    · rw [hR0, List.length_append, hvl, List.length_replicate]; omega
    · rw [← hg, h1.out]
      simp [splice, hR0, hvl]
  have hend : ∀ wr v8, RepPRel w vs n k v8 wr → ∃ m : Nat, v8 = .int .i64 m ∧ 1 ≤ m ∧ m ≤ N := by
    rintro wr v8 ⟨q, m, zs, rfl, h1, h2, h3, h4, _⟩
    refine ⟨n * q, h3, by have := Nat.mul_le_mul hp h1; omega, ?_⟩
    rw [hN]; exact Nat.mul_le_mul (Nat.le_refl n) h2
  have hfin : ∀ wr, RepPRel w vs n k (.int .i64 (N : Nat)) wr → wr.ownsRow w.heap.size 46 1 (.slice (some ⟨g, 0, none⟩) N N) N (Rp k vs) ∧ Below w.heap.size w wr := by
    rintro wr ⟨q, m, zs, hm, h1, h2, h3, h4, h5, h6⟩
    have hmN : m = N := by simp at h3; omega
    rw [hmN, List.take_of_length_le (by omega), List.length_append, hRl] at h4
    have hz : zs = [] := List.eq_nil_of_length_eq_zero (by omega)
    rw [hmN, List.take_of_length_le (by omega), hz, List.append_nil, ← hg] at h5
    exact ⟨tight_own h5 (by omega) hRl (by unfold maxLen; omega), h6⟩
  have hgo : ∀ wr (m : Nat), RepPRel w vs n k (.int .i64 (m : Nat)) wr → m < N → ∃ zs, wr.heap[g]? = some (.cells ((Rp k vs).take m ++ zs).toArray 46 (0, 0)) ∧ ((Rp k vs).take m ++ zs).length = N ∧ Below g w wr ∧
      ∀ w4, Hid (w4.heap[g]? = some (.cells (splice ((Rp k vs).take m ++ zs) m ((Rp k vs).take (Nat.min m (N - m)))).toArray 46 (0, 0))) → Below g w w4 → RepPRel w vs n k (.int .i64 ((m + Nat.min m (N - m) : Nat) : Int)) w4 := by
    rintro wr m ⟨q, m', zs, hm, h1, h2, h3, h4, h5, h6⟩ hlt
    obtain rfl : m = m' := by simp at h3; omega
    rw [← hg] at h5 h6
    rw [← hN] at h4
    refine ⟨zs, h5, h4, h6, fun w4 k1 k2 => ?_⟩
    have hc : Nat.min m (N - m) ≤ n * (k - q) := by
      rw [Nat.mul_sub, ← hm, ← hN]; exact Nat.min_le_right _ _
    have htl : ((Rp k vs).take m).length = m := by rw [List.length_take, hRl]; omega
    have hcl : ((Rp k vs).take (Nat.min m (N - m))).length = Nat.min m (N - m) := by
      rw [List.length_take, hRl]
      exact Nat.min_eq_left (by have : Nat.min m (N - m) ≤ m := Nat.min_le_left _ _; omega)
    have hzl : zs.length = N - m := by rw [List.length_append, htl] at h4; omega
    have hsp : splice ((Rp k vs).take m ++ zs) m ((Rp k vs).take (Nat.min m (N - m))) = (Rp k vs).take (m + Nat.min m (N - m)) ++ zs.drop (Nat.min m (N - m)) := by
      unfold splice
      have e1 : ((Rp k vs).take m ++ zs).take m = (Rp k vs).take m := by
        rw [List.take_append_of_le_length (by omega), List.take_of_length_le (by omega)]
      have e2 : ((Rp k vs).take m ++ zs).drop (m + ((Rp k vs).take (Nat.min m (N - m))).length) = zs.drop (Nat.min m (N - m)) := by
        rw [hcl, List.drop_append, htl, List.drop_of_length_le (by omega)]
        simp
      have e3 := hstep q (Nat.min m (N - m)) h2 hc
      rw [← hm] at e3
      rw [e1, e2, ← List.append_assoc, e3]
    rw [hsp] at k1
    have hml : m + Nat.min m (N - m) ≤ N := by have : Nat.min m (N - m) ≤ N - m := Nat.min_le_right _ _; omega
    have hlen : ((Rp k vs).take (m + Nat.min m (N - m)) ++ zs.drop (Nat.min m (N - m))).length = n * k := by
      rw [List.length_append, List.length_take, hRl, List.length_drop, hzl, ← hN]
      omega
    rcases Nat.le_total m (N - m) with hle | hle
    · have hmn : Nat.min m (N - m) = m := Nat.min_eq_left hle
      rw [hmn] at k1 hlen ⊢
      have hq2 : q + q ≤ k := by
        have h7 : n * (q + q) ≤ n * k := by rw [Nat.mul_add, ← hm, ← hN]; omega
        exact Nat.le_of_mul_le_mul_left h7 (by omega)
      exact ⟨q + q, m + m, _, by rw [Nat.mul_add, ← hm], by omega, hq2, rfl, hlen, by rw [← hg]; exact k1.out, by rw [← hg]; exact k2⟩
    · have hmn : Nat.min m (N - m) = N - m := Nat.min_eq_right hle
      rw [hmn, show m + (N - m) = N by omega] at k1 hlen ⊢
      exact ⟨k, N, _, hN, hk, Nat.le_refl _, rfl, hlen, by rw [← hg]; exact k1.out, by rw [← hg]; exact k2⟩
  have Hst := Lib.hid hst
  have Hend := Lib.hid hend
  have Hfin := Lib.hid hfin
  have Hgo := Lib.hid hgo
  have Hnews := Lib.hid hnews
  have Hone := Lib.hid hone
  have HoneR := Lib.hid honeR
  have Hvl := Lib.hid hvl
  have HRl := Lib.hid hRl
  have Hg := Lib.hid hg
  have Hmin := Lib.hid hmin
  have hgw : g ≤ w.heap.size := by omega
  have hbg : b < g := by rw [hg]; exact hbw
  rw [← hg]
  clear hst hend hfin hgo hnews hone honeR hvl hRl hg hmin hR0 hstep hN hbw
  go_enter Try.func51, Try.ntmps51
  go_wp2_with fail
  refine (km.out w).mono ?_
  rintro ee w0 ⟨rfl, rfl⟩
  have hz : ((0 : Nat) : Int) = 0 := rfl
  go_wp2_with (first
    | (at_make; refine wpList_make_full _ rfl (.tmp 29) (.tmp 29) 63 rfl w0.heap.size 46 i0 _ 1 Try.underlying63 hi hz0 hz1 .i64 .i64 _ _ N rfl rfl rfl rfl (by rw [hz2]; omega) (by unfold maxLen; omega) (Nat.le_refl _) ?_; intro w1 hown hg1; have Hb1 := Lib.hid (show Below g w0 w1 from by rw [Hg.out]; exact (Below.refl _ _).grown hg1 (Nat.le_refl _) (fun k hk => by cases hk)); have HG1 := Lib.hid (repP_made hown); rw [← Hg.out] at HG1; clear hown hg1; rw [← Hg.out]; have Hn1 := Lib.hid (show ∀ j u, vs[j]? = some u → w1.cell? ((⟨b, off, none⟩ : Addr).add j) = some u from fun j u hj => (Hb1.out.cell (p := (⟨b, off, none⟩ : Addr).add j) (by rw [Addr.add_lit]; exact hbg)).trans (Hnews.out j u hj)))
    | (with_reducible refine wpList_copy_splice (o := ⟨some 33, _, _, _, _, _⟩) rfl (.tmp 31) (.tmp 32) 63 63 rfl 46 Try.underlying63 hsz (some ⟨g, 0, none⟩) (some ⟨b, off, none⟩) N N n cap rfl rfl g 0 (List.replicate N (.pointer none)) 46 HG1.out vs (by rw [Hvl.out]; exact Hmin.out.symm) (fun _ => ⟨rfl, _, rfl, Hn1.out⟩) (by rw [Hvl.out, List.length_replicate]; omega) Hone.out g w0 Hb1.out (Nat.le_refl _) ?_; intro w2 hG2 hB2))
  have Hs2 := Lib.hid (Hst.out w2 hG2 hB2)
  clear hG2 hB2
  go_loopw [8] (fun v8 wr => RepPRel w0 vs n k v8 wr) (fun v8 _ => N - (intOf v8).toNat)
  case atStart => exact Hs2.out
  case round =>
    obtain ⟨m, rfl, hm1, hmN⟩ := Hend.out _ _ hrel
    have Hrel := Lib.hid hrel
    clear hrel
    by_cases hlt : m < N
    · obtain ⟨zs, h5, h4, h6, h7⟩ := Hgo.out wr m Hrel.out hlt
      obtain ⟨cs, hcs⟩ : ∃ cs, cs = (Rp k vs).take (Nat.min m (N - m)) := ⟨_, rfl⟩
      obtain ⟨cu, hcu⟩ : ∃ cu, cu = (Rp k vs).take m ++ zs := ⟨_, rfl⟩
      have hcl : cs.length = Nat.min m (N - m) := by
        rw [hcs, List.length_take, HRl.out]
        exact Nat.min_eq_left (by have : Nat.min m (N - m) ≤ m := Nat.min_le_left _ _; omega)
      have hsrc : ∀ j v, cs[j]? = some v → wr.drew.cell? ((⟨g, 0, none⟩ : Addr).add j) = some v := by
        intro j v hj
        have hjl := (List.getElem?_eq_some_iff.1 hj).1
        have hjm : j < m := by have h8 : Nat.min m (N - m) ≤ m := Nat.min_le_left _ _; omega
        rw [hcs, List.getElem?_take, if_pos (by omega)] at hj
        rw [Addr.add_lit, Nat.zero_add]
        have h9 : wr.drew.heap[g]? = some (.cells ((Rp k vs).take m ++ zs).toArray 46 (0, 0)) := h5
        rw [Joins.cell_of_block h9]
        simp [List.getElem?_append, hjm, hj, HRl.out]
        omega
      rw [← hcs, ← hcu] at h7
      rw [← hcu] at h5 h4
      have hone2 : ∀ v ∈ cs, v.oneCell' = true := by rw [hcs]; exact HoneR.out _
      have hml : Nat.min m (N - m) ≤ N - m := Nat.min_le_right _ _
      obtain ⟨M, hM⟩ : ∃ M, M = Nat.min m (N - m) := ⟨_, rfl⟩
      have hM1 : 1 ≤ M := by rw [hM]; exact Nat.le_min.2 ⟨hm1, by omega⟩
      rw [← hM] at h7 hcl hml
      have Hcl := Lib.hid hcl
      have HM := Lib.hid hM
      have H4 := Lib.hid h4
      have H5 := Lib.hid (show wr.drew.heap[g]? = some (.cells cu.toArray 46 (0, 0)) from h5)
      have H6 := Lib.hid (show Below g w0 wr.drew from h6.drew)
      have H7 := Lib.hid h7
      have Hsrc := Lib.hid hsrc
      have Hone2 := Lib.hid hone2
      clear hcs hcu hcl hsrc hone2 hM h4 h5 h6 h7
      have hNm : ¬ N = m := by omega
      have hwr : IntKind.i64.wrap ((m : Int) + (M : Int)) = (m : Int) + (M : Int) := IntWalk.i64_in _ (by omega)
      go_wp2_with fail
      go_region_law (refine step_copy_splice rfl (.tmp 41) (.tmp 44) 63 63 rfl 46 Try.underlying63 hsz (some ⟨g, m, none⟩) (some ⟨g, 0, none⟩) (N - m) (N - m) m N (by simp [Act.eval, Act.put]) (by simp [Act.eval, Act.put]) g m cu 46 H5.out cs (by rw [Hcl.out]; exact HM.out) (fun _ => ⟨rfl, _, rfl, Hsrc.out⟩) (by rw [Hcl.out, H4.out]; omega) Hone2.out g w0 H6.out (Nat.le_refl _) ?_; intro w4 hG4 hB4; rw [Hcl.out])
      have Hr4 := Lib.hid (H7.out w4 hG4 hB4)
      clear hG4 hB4
      simp [Act.put]
      go_wp2_with fail
      go_roundw
      case rel => exact (show RepPRel w0 vs n k (.int .i64 ((m : Int) + (M : Int))) _ from Hr4.out)
      case measure => simp [intOf]; omega
    · obtain rfl : m = N := by omega
      have hF := Lib.hid (Hfin.out wr Hrel.out)
      go_wp2_with fail
      go_ret
      rw [Hg.out]
      have h8 := hF.out
      rw [Hg.out] at h8
      exact ⟨rfl, h8⟩

end Go.Proofs.Ytlbaelehmoidpaa

/- HydDel -/
/- slices.Delete of one pointer to a node, in place. -/
namespace Go.Proofs.Ytlbaelehmoidpaa
set_option maxRecDepth 100000
open Go.RowKit

theorem grownBy_setCells (b : Nat) : ∀ (vs : List Value) (o : Nat) (w : World), w.grownBy (w.setCells b o vs) (some b)
  | [], _, _ => ⟨rfl, rfl, rfl, Nat.le_refl _, fun _ _ _ => rfl⟩
  | v :: r, o, w => grownBy_trans (Lib.grownBy_setCell w b o v) (grownBy_setCells b r (o + 1) _)

theorem grown_drew' (w : World) (row : Option Nat) : w.grownBy w.drew row := ⟨rfl, rfl, rfl, Nat.le_refl _, fun _ _ _ => rfl⟩

/-- The row without its i-th pointer: those behind it stand one further ahead, and the last place is empty. -/
def delF (f : Nat → Value) (n i : Nat) : Nat → Value := fun j => if j + 1 < n then (if j < i then f j else f (j + 1)) else if j + 1 = n then .pointer none else f j

/-- What lies behind stands one further ahead. -/
def mvF (f : Nat → Value) (n i : Nat) : Nat → Value := fun j => if i ≤ j ∧ j + 1 < n then f (j + 1) else f j

def newsOf (f : Nat → Value) (n i : Nat) : List Value := (List.range (n - (i + 1))).map fun k => f (i + 1 + k)
theorem newsOf_len (f : Nat → Value) (n i : Nat) : (newsOf f n i).length = n - (i + 1) := by simp [newsOf]

theorem rowIs_cell {w : World} {b cap : Nat} {t : TypeId} {f : Nat → Value} (h : w.rowIs b t cap f) {j : Nat} (hj : j < cap) : w.cell? ⟨b, j, none⟩ = some (f j) := by
  obtain ⟨c, h1, h2, h3⟩ := h
  rw [Joins.cell_of_block h1]
  exact h3 j hj
theorem rowIs_thaw {w : World} {b cap : Nat} {t : TypeId} {f : Nat → Value} (h : w.rowIs b t cap f) {j : Nat} : w.frozen? ⟨b, j, none⟩ = false := by
  obtain ⟨c, h1, h2, h3⟩ := h
  simp [World.frozen?, h1]
  try omega

theorem rowIs_mv {w : World} {b cap n i : Nat} {t : TypeId} {f : Nat → Value} (h : w.rowIs b t cap f) (hi : i < n) : (w.setCells b i (newsOf f n i)).rowIs b t cap (mvF f n i) := by
  refine (rowIs_setCells (newsOf f n i) i w f h).congr (fun j _ => ?_)
  unfold mvF
  rw [newsOf_len]
  by_cases h1 : i ≤ j ∧ j + 1 < n
  · rw [if_pos h1, if_pos (by omega)]
    simp [newsOf, show j - i < n - (i + 1) by omega, show i + 1 + (j - i) = j + 1 by omega]
  · rw [if_neg h1, if_neg (by omega)]

theorem rowIs_del {w : World} {b cap n i : Nat} {t : TypeId} {f : Nat → Value} (h : w.rowIs b t cap (mvF f n i)) (hi : i < n) : (w.setCells b (n - 1) [.pointer none]).rowIs b t cap (delF f n i) := by
  refine (rowIs_setCells [.pointer none] (n - 1) w _ h).congr (fun j _ => ?_)
  unfold mvF delF
  simp only [List.length_singleton]
  by_cases h1 : j + 1 < n
  · rw [if_pos h1, if_neg (by omega)]
    by_cases h2 : j < i
    · rw [if_pos h2, if_neg (by omega)]
    · rw [if_neg h2, if_pos (by omega)]
  · by_cases h2 : j + 1 = n
    · rw [if_pos (by omega), if_neg h1, if_pos h2]
      simp [show j - (n - 1) = 0 by omega]
    · rw [if_neg (by omega), if_neg h1, if_neg h2, if_neg (by omega)]

theorem step_del {P : Program} {ops : Array Oper} {o : Oper} {a : Act} {w : World} {K : Act → World → Prop} {Q : Exit → Act → World → Prop} {E : Prop}
    (hg : o.guard = none) (s x : Operand) (t : TypeId) (hop : o.op = Op.call { callee := Callee.builtin Builtin.append, args := #[s, x], argTypes := #[t, t] })
    (e : TypeId) (i0 : TypeInfo) (h1 : P.underlying t = some (.slice e)) (h2 : P.info? e = some i0) (h4 : i0.size = 1)
    (b n cap i : Nat) (f : Nat → Value) (hr : w.rowIs b e cap f) (hin : i < n) (hnc : n ≤ cap) (hone : ∀ j, j < n → (f j).oneCell' = true)
    (hs : a.eval s = .slice (some ⟨b, 0, none⟩) i cap) (ad : Addr) (c : Nat) (hx : a.eval x = .slice (some ad) (n - (i + 1)) c) (had : i + 1 < n → ad = ⟨b, i + 1, none⟩)
    (hK : ∀ w', Hid (w'.rowIs b e cap (mvF f n i)) → Hid (w.grownBy w' (some b)) → K (a.put o.dst (.slice (some ⟨b, 0, none⟩) (n - 1) cap)) w') :
    if Region.wanted o (yielded ops a.tmps) = true then Oper.wp P o a w K Q else E := by
  refine step_append_room hg s x t hop e i0 1 h1 h2 h4 b 0 i cap hs ad (n - (i + 1)) c (newsOf f n i) hx (by rw [newsOf_len, Nat.mul_one]) ?_ ?_ (by omega) ?_ ?_
  · intro j u hj
    have hl := (List.getElem?_eq_some_iff.1 hj).1
    rw [newsOf_len] at hl
    rw [had (by omega), Addr.add_lit]
    simp [newsOf, hl] at hj
    rw [← hj]
    exact rowIs_cell hr (by omega)
  · intro u hu
    simp [newsOf] at hu
    obtain ⟨k, hk, rfl⟩ := hu
    exact hone _ (by omega)
  · intro j hj
    rw [newsOf_len] at hj
    exact ⟨by rw [rowIs_cell hr (by omega)]; rfl, rowIs_thaw hr⟩
  · rw [Nat.mul_one, Nat.zero_add, show i + (n - (i + 1)) = n - 1 by omega]
    exact hK _ (rowIs_mv hr hin) (grownBy_setCells b _ i w)

theorem node_zero : ∀ w, (zeroValue 46).run Try.prog w = .ok (.pointer none) w := by
  intro w
  obtain ⟨i0, hi, hz, _, _⟩ := info_parts info_node
  simp [zeroValue, typeInfo, hi, hz]

theorem run_del {w : World} {b n cap i : Nat} {f : Nat → Value} (c : Nat) (h : w.rowIs b 46 cap (mvF f n i)) (hi : i < n) (hn : n ≤ cap) :
    ∃ w', (∀ ty, (Builtin.clear_ #[63] ty #[.slice (some ⟨b, n - 1, none⟩) 1 c]).run Try.prog w = .ok (.tuple #[]) w') ∧ w'.rowIs b 46 cap (delF f n i) ∧ w.grownBy w' (some b) := by
  refine ⟨_, fun ty => Lib.run_clear_slice w 63 46 ty (.pointer none) Try.underlying63 node_zero rfl rfl b (n - 1) 1 c (by omega) ?_ ?_, rowIs_del h hi, grownBy_setCells b _ _ w⟩
  · intro j hj
    rw [rowIs_cell h (by omega)]; rfl
  · intro j hj
    exact rowIs_thaw h

set_option maxHeartbeats 2000000 in
theorem deleteP_any (b n cap i : Nat) (f : Nat → Value) (w : World) (hr : w.rowIs b 46 cap f) (hin : i < n) (hnc : n ≤ cap) (hcap : cap ≤ 9223372036854775807) (hone : ∀ j, j < n → (f j).oneCell' = true) :
    Calls Try.prog 50 #[.slice (some ⟨b, 0, none⟩) n cap, .int .i64 i, .int .i64 ((i : Int) + 1)] w fun e w' =>
      e = .returned (.slice (some ⟨b, 0, none⟩) (n - 1) cap) ∧ w'.rowIs b 46 cap (delF f n i) ∧ w.grownBy w' (some b) := by
  obtain ⟨i0, hi0, hz0, hz1, hz2⟩ := info_parts info_node
  obtain ⟨m, rfl⟩ : ∃ m, n = m + 1 := ⟨n - 1, by omega⟩
  rw [Nat.add_sub_cancel]
  have Hr := Lib.hid hr
  have Hone := Lib.hid hone
  have hq1 : (0 : Int) ≤ (i : Int) := by omega
  have hq2 : (i : Int) ≤ (i : Int) + 1 := by omega
  have hq3 : (i : Int) ≤ (m : Int) := by omega
  have hq4 : (m : Int) + 1 ≤ (cap : Int) := by omega
  have hq5 : (i : Int) ≤ (m : Int) + 1 := by omega
  have hq6 : (i : Int) ≤ (cap : Int) := by omega
  have hq7 : ((i : Int) == (i : Int) + 1) = false := by simp; omega
  have hq9 : (m : Int) ≤ (m : Int) + 1 := by omega
  have hq8 : (0 : Int) ≤ (i : Int) + 1 := by omega
  have Hrd := Lib.hid (show w.drew.rowIs b 46 cap f from Hr.out)
  have hfull := Lib.hid (show cap = i + 1 ∨ i + 1 < cap by omega)
  clear hr hone
  go_enter Try.func50, Try.ntmps50
  go_wp2_with fail
  rcases hfull.out with hfl | hfl
  · subst hfl
    obtain rfl : m = i := by omega
    go_region_law (refine step_del rfl (.tmp 22) (.tmp 25) 63 rfl 46 i0 Try.underlying63 hi0 hz1 b (m + 1) (m + 1) m f Hrd.out hin hnc Hone.out (by simp [Act.eval, Act.put]) ⟨b, 0, none⟩ 0 (by simp [Act.eval, Act.put]) (by omega) ?_; intro w2 hR2 hG2; rw [Nat.add_sub_cancel])
    have hG3 := grownBy_trans (grown_drew' w (some b)) hG2.out
    have h3 := run_del 1 hR2.out hin hnc
    simp only [Nat.add_sub_cancel] at h3
    obtain ⟨w3, hk3, hR3, hG4⟩ := h3
    have HR3 := Lib.hid hR3
    have HG3 := Lib.hid (grownBy_trans hG3 hG4)
    clear hG3 hR3 hG4 hR2 hG2
    go_wp2_with fail
    go_ret
    exact ⟨rfl, HR3.out, HG3.out⟩
  · go_region_law (refine step_del rfl (.tmp 22) (.tmp 25) 63 rfl 46 i0 Try.underlying63 hi0 hz1 b (m + 1) cap i f Hrd.out hin hnc Hone.out (by simp [Act.eval, Act.put]) ⟨b, i + 1, none⟩ (cap - (i + 1)) (by simp [Act.eval, Act.put]; omega) (fun _ => rfl) ?_; intro w2 hR2 hG2; rw [Nat.add_sub_cancel])
    have hG3 := grownBy_trans (grown_drew' w (some b)) hG2.out
    have h3 := run_del (cap - m) hR2.out hin hnc
    simp only [Nat.add_sub_cancel] at h3
    obtain ⟨w3, hk3, hR3, hG4⟩ := h3
    have HR3 := Lib.hid hR3
    have HG3 := Lib.hid (grownBy_trans hG3 hG4)
    clear hG3 hR3 hG4 hR2 hG2
    go_wp2_with fail
    go_ret
    exact ⟨rfl, HR3.out, HG3.out⟩

end Go.Proofs.Ytlbaelehmoidpaa

/- HydRep -/
/- slices.Replace of one pointer to a node by several that lie in another block. -/
namespace Go.Proofs.Ytlbaelehmoidpaa
set_option maxRecDepth 100000
open Go.RowKit

theorem rowIs_heap {w w' : World} {b cap : Nat} {t : TypeId} {f : Nat → Value} (h : w.rowIs b t cap f) (e : w'.heap = w.heap) : w'.rowIs b t cap f := h.of_block (by rw [e])

theorem node_hsz : (Try.prog.info? 46).map (·.size) = some 1 := by
  obtain ⟨i0, hi, hz0, hz1, hz2⟩ := info_parts info_node
  rw [hi]; simp [hz1]

theorem cell_setCells_ne {w : World} {b vb o x : Nat} {vs : List Value} (h : vb ≠ b) : (w.setCells b o vs).cell? ⟨vb, x, none⟩ = w.cell? ⟨vb, x, none⟩ := World.cell?_setCells_out b vs o w _ (fun h' _ => absurd h' h)

theorem node_size1 : ∀ w, (Go.sizeOf 46).run Try.prog w = .ok 1 w := by
  intro w
  obtain ⟨i0, hi, hz, h1, h2⟩ := info_parts info_node
  simp [sizeOf, typeInfo, hi, h1]

/-- A copy into a row. -/
theorem run_cp {W : World} {b cap : Nat} {F : Nat → Value} (hr : W.rowIs b 46 cap F) (o dLen dCap : Nat) (a : Addr) (sLen sCap : Nat) (cs : List Value) (hn : cs.length = Nat.min sLen dLen) (hfit : o + cs.length ≤ cap)
    (hsrc : ∀ j v, cs[j]? = some v → W.cell? (a.add j) = some v) (h1 : ∀ v ∈ cs, v.oneCell' = true) (ty : TypeId) :
    (Builtin.copy_ #[63, 63] ty #[.slice (some ⟨b, o, none⟩) dLen dCap, .slice (some a) sLen sCap]).run Try.prog W = .ok (goInt cs.length) (W.setCells b o cs) :=
  run_copy_cells W _ _ ty 46 b o dLen dCap a sLen sCap cs Try.underlying63 node_hsz hn hsrc (fun j hj => by rw [rowIs_cell hr (by omega)]; rfl) (fun j _ => rowIs_thaw hr) h1

theorem run_clear_none (ty : TypeId) (p : Option Addr) (c : Nat) (w : World) : (Builtin.clear_ #[63] ty #[.slice p 0 c]).run Try.prog w = .ok (.tuple #[]) w := by
  cases p <;> simp [Builtin.clear_, run_underlying Try.underlying63]

/-- The row with vs in place of its i-th pointer. -/
def repF (f : Nat → Value) (vs : List Value) (i m : Nat) : Nat → Value := fun j => if j < i then f j else if j < i + m then vs[j - i]?.getD default else f (j + 1 - m)

def RepPost (w : World) (b : Nat) (f : Nat → Value) (vs : List Value) (n i m : Nat) (e : Ending) (w' : World) : Prop :=
  ∃ g c, e = .returned (.slice (some ⟨g, 0, none⟩) (n - 1 + m) c) ∧ g < w'.heap.size ∧ (∀ j, j < n - 1 + m → w'.cell? ⟨g, j, none⟩ = some (repF f vs i m j)) ∧ w.grownBy w' (some b) ∧ (g = b ∨ w.heap.size ≤ g)

theorem grownBy_two {w : World} {b o o' : Nat} {vs vs' : List Value} : w.grownBy ((w.drew.setCells b o vs).setCells b o' vs') (some b) :=
  grownBy_trans (grown_drew' w (some b)) (grownBy_trans (grownBy_setCells b vs o _) (grownBy_setCells b vs' o' _))

set_option maxHeartbeats 4000000 in
/-- At the end, with room. -/
theorem repP_room (b cap i vb m vc : Nat) (f : Nat → Value) (vs : List Value) (w : World) (hr : w.rowIs b 46 cap f) (hnc : i + 1 ≤ cap) (hcap : cap ≤ 9223372036854775807) (hn6 : i + 1 ≤ 1000000) (hm : 1 ≤ m) (hm1 : m ≤ 1000)
    (hvl : vs.length = m) (hone : ∀ u ∈ vs, u.oneCell' = true) (hvs : ∀ j v, vs[j]? = some v → w.cell? ⟨vb, 0 + j, none⟩ = some v) (hroom : i + m ≤ cap) :
    Calls Try.prog 52 #[.slice (some ⟨b, 0, none⟩) (i + 1) cap, .int .i64 i, .int .i64 ((i : Int) + 1), .slice (some ⟨vb, 0, none⟩) m vc] w (RepPost w b f vs (i + 1) i m) := by
  have hsrc := Src.ofSlice (P := Try.prog) (size := 1) w Try.underlying63 ⟨vb, 0, none⟩ m vc vs (by omega) (fun j u hj => by rw [Addr.add_lit]; exact hvs j u hj) hone
  obtain ⟨i0, hi0, hz0, hz1, hz2⟩ := info_parts info_node
  have hc : ∀ j, j < vs.length → (w.cell? ⟨b, 0 + i + j, none⟩).isSome = true := fun j hj => by rw [rowIs_cell hr (by omega)]; rfl
  have hf : ∀ j, j < vs.length → w.frozen? ⟨b, 0 + i + j, none⟩ = false := fun j hj => rowIs_thaw hr
  have hfin : RepPost w b f vs (i + 1) i m (.returned (.slice (some ⟨b, 0, none⟩) (i + m) cap)) (w.setCells b (0 + i) vs) := by
    refine ⟨b, cap, by rw [show i + 1 - 1 + m = i + m by omega], Nat.lt_of_lt_of_le hr.lt (grownBy_setCells b vs _ w).size, fun j hj => ?_, grownBy_setCells b vs _ w, .inl rfl⟩
    rw [rowIs_cell (rowIs_setCells vs (0 + i) w f hr) (by omega)]
    congr 1
    unfold repF
    by_cases h1 : j < i
    · rw [if_neg (by omega), if_pos h1]
    · rw [if_pos (by omega), if_neg h1, if_pos (by omega), Nat.zero_add]
  rw [Nat.zero_add] at hfin
  have Hfin := Lib.hid hfin
  have Hsrc := Lib.hid hsrc
  have Hc := Lib.hid hc
  have Hf := Lib.hid hf
  have hq1 : (0 : Int) ≤ (i : Int) := by omega
  have hq2 : (i : Int) ≤ (i : Int) + 1 := by omega
  have hq4 : (i : Int) + 1 ≤ (cap : Int) := by omega
  have hq6 : (i : Int) ≤ (cap : Int) := by omega
  have hq7 : ((i : Int) == (i : Int) + 1) = false := by simp; omega
  have hq8 : (0 : Int) ≤ (i : Int) + 1 := by omega
  have hq9 : ¬ ((i : Int) + (m : Int) < (i : Int) + 1) := by omega
  clear hr hfin hsrc hc hf hvs
  go_enter Try.func52, Try.ntmps52
  go_wp2_with (at_builtin; refine wpList_append_room1 _ rfl _ _ 63 63 rfl 46 _ _ Try.underlying63 info_node b 0 i cap rfl _ rfl m vs Hsrc.out hroom Hc.out Hf.out ?_)
  go_ret
  exact Hfin.out

set_option maxHeartbeats 4000000 in
/-- At the end, without room. -/
theorem repP_grow (b cap i vb m vc : Nat) (f : Nat → Value) (vs : List Value) (w : World) (hr : w.rowIs b 46 cap f) (hnc : i + 1 ≤ cap) (hcap : cap ≤ 9223372036854775807) (hn6 : i + 1 ≤ 1000000) (hm : 1 ≤ m) (hm1 : m ≤ 1000)
    (hvl : vs.length = m) (hone : ∀ u ∈ vs, u.oneCell' = true) (hvs : ∀ j v, vs[j]? = some v → w.cell? ⟨vb, 0 + j, none⟩ = some v) (hroom : cap < i + m) :
    Calls Try.prog 52 #[.slice (some ⟨b, 0, none⟩) (i + 1) cap, .int .i64 i, .int .i64 ((i : Int) + 1), .slice (some ⟨vb, 0, none⟩) m vc] w (RepPost w b f vs (i + 1) i m) := by
  obtain ⟨i0, hi0, hz0, hz1, hz2⟩ := info_parts info_node
  have hsrc : Src Try.prog i0.size 63 (.slice (some ⟨vb, 0, none⟩) m vc) m vs w := by
    rw [hz1]
    exact Src.ofSlice w Try.underlying63 ⟨vb, 0, none⟩ m vc vs (by omega) (fun j u hj => by rw [Addr.add_lit]; exact hvs j u hj) hone
  obtain ⟨cs, hcs⟩ : ∃ cs, cs = (List.range i).map f := ⟨_, rfl⟩
  have hcl : cs.length = i := by rw [hcs]; simp
  have hold : (Builtin.firstCells i0.size i (.slice (some ⟨b, 0, none⟩) i cap)).run Try.prog w.drew = .ok cs.toArray w.drew := by
    rw [hz1]
    exact run_firstCells_some w.drew 1 i ⟨b, 0, none⟩ i cap cs (by omega) (fun j v hj => by
      have hjl := (List.getElem?_eq_some_iff.1 hj).1
      rw [Addr.add_lit, Nat.zero_add]
      have h1 : w.drew.cell? ⟨b, j, none⟩ = some (f j) := rowIs_cell hr (by omega)
      rw [h1, ← hj, hcs]
      rw [hcl] at hjl
      simp [hjl])
  have hrun : ∀ ty, (Builtin.append_ #[63, 63] ty #[.slice (some ⟨b, 0, none⟩) i cap, .slice (some ⟨vb, 0, none⟩) m vc]).run Try.prog w = _ := fun ty =>
    run_append_grow_src w 63 63 ty 46 i0 _ Try.underlying63 hi0 hz0 (some ⟨b, 0, none⟩) i cap cs hold _ m vs hsrc hroom (by omega) (by rw [hz2]; exact growslice_fits hroom (by omega))
  obtain ⟨G, hG⟩ : ∃ G, G = grownCap w (i + m) cap 46 := ⟨_, rfl⟩
  rw [← hG] at hrun
  have hfin : RepPost w b f vs (i + 1) i m (.returned (.slice (some ⟨w.heap.size, 0, none⟩) (i + m) G)) (w.drew.alloc (.cells ((cs ++ vs).toArray ++ Builtin.zeroCells (Value.pointer none).cells (G - (i + m))) 46)) := by
    refine ⟨w.heap.size, G, by rw [show i + 1 - 1 + m = i + m by omega], by simp, fun j hj => ?_, grownBy_trans (grown_drew' w (some b)) (World.grownBy_alloc _ _ _), .inr (Nat.le_refl _)⟩
    rw [World.cell?_alloc_at (w := w.drew) _ _ w.heap.size j rfl]
    have hl : (cs ++ vs).length = i + m := by rw [List.length_append, hcl, hvl]
    rw [Array.getElem?_append_left (by simp [hcl, hvl]; omega)]
    unfold repF
    by_cases h1 : j < i
    · rw [if_pos h1, List.getElem?_toArray, List.getElem?_append_left (by omega), hcs]
      simp [h1]
    · rw [if_neg h1, if_pos (by omega), List.getElem?_toArray, List.getElem?_append_right (by omega), hcl, List.getElem?_eq_getElem (by omega)]
      rfl
  obtain ⟨W, hW⟩ : ∃ W, W = w.drew.alloc (.cells ((cs ++ vs).toArray ++ Builtin.zeroCells (Value.pointer none).cells (G - (i + m))) 46) := ⟨_, rfl⟩
  rw [← hW] at hfin hrun
  have Hfin := Lib.hid hfin
  have Hrun := Lib.hid hrun
  have hq1 : (0 : Int) ≤ (i : Int) := by omega
  have hq2 : (i : Int) ≤ (i : Int) + 1 := by omega
  have hq4 : (i : Int) + 1 ≤ (cap : Int) := by omega
  have hq6 : (i : Int) ≤ (cap : Int) := by omega
  have hq7 : ((i : Int) == (i : Int) + 1) = false := by simp; omega
  have hq8 : (0 : Int) ≤ (i : Int) + 1 := by omega
  have hq9 : ¬ ((i : Int) + (m : Int) < (i : Int) + 1) := by omega
  clear hr hfin hsrc hvs hold hcs hcl hrun hW hG
  go_enter Try.func52, Try.ntmps52
  go_wp2_with (at_builtin; refine Lib.wpList_append_run _ rfl _ _ _ _ rfl _ _ rfl rfl _ _ (Hrun.out _) ?_)
  go_ret
  exact Hfin.out

/-- What the two copies leave. -/
theorem rep_rowIs {W : World} {b cap n i m : Nat} {f : Nat → Value} {vs : List Value} (hr : W.rowIs b 46 cap f) (hin : i + 1 < n) (hvl : vs.length = m) (hroom : n - 1 + m ≤ cap) :
    ∀ j, j < n - 1 + m → ((W.setCells b (i + m) (newsOf f n i)).setCells b i vs).cell? ⟨b, j, none⟩ = some (repF f vs i m j) := by
  intro j hj
  rw [rowIs_cell (rowIs_setCells vs i _ _ (rowIs_setCells (newsOf f n i) (i + m) W f hr)) (by omega)]
  congr 1
  unfold repF
  rw [newsOf_len]
  by_cases h1 : j < i
  · rw [if_neg (by omega), if_neg (by omega), if_pos h1]
  · by_cases h2 : j < i + m
    · rw [if_pos (by omega), if_neg h1, if_pos h2]
    · rw [if_neg (by omega), if_pos (by omega), if_neg h1, if_neg h2]
      simp [newsOf, show j - (i + m) < n - (i + 1) by omega, show i + 1 + (j - (i + m)) = j + 1 - m by omega]

theorem newsOf_cell {W : World} {b cap n i : Nat} {f : Nat → Value} (hr : W.rowIs b 46 cap f) (hn : n ≤ cap) : ∀ j v, (newsOf f n i)[j]? = some v → W.cell? ((⟨b, i + 1, none⟩ : Addr).add j) = some v := by
  intro j v hj
  have hjl := (List.getElem?_eq_some_iff.1 hj).1
  rw [newsOf_len] at hjl
  rw [Addr.add_lit, rowIs_cell hr (by omega), ← hj]
  simp [newsOf, hjl]

theorem newsOf_one {n i : Nat} {f : Nat → Value} (hone : ∀ j, j < n → (f j).oneCell' = true) : ∀ v ∈ newsOf f n i, v.oneCell' = true := by
  intro v hv
  simp [newsOf] at hv
  obtain ⟨k, hk, rfl⟩ := hv
  exact hone _ (by omega)

set_option maxHeartbeats 4000000 in
/-- In the middle, with room, by several. -/
theorem repP_shift (b n cap i vb m vc : Nat) (f : Nat → Value) (vs : List Value) (w : World) (hr : w.rowIs b 46 cap f) (hin : i + 1 < n) (hnc : n ≤ cap) (hcap : cap ≤ 9223372036854775807) (hn6 : n ≤ 1000000) (hm : 2 ≤ m) (hm1 : m ≤ 1000)
    (hvl : vs.length = m) (hone : ∀ u ∈ vs, u.oneCell' = true) (honf : ∀ j, j < n → (f j).oneCell' = true) (hvs : ∀ j v, vs[j]? = some v → w.cell? ⟨vb, 0 + j, none⟩ = some v) (hvb : vb ≠ b)
    (tA tB : TypeId) (kA kB : Nat) (hsa : w.shape? vb = some (tA, kA)) (hkA : kA ≠ 0) (hsb : w.shape? b = some (tB, kB)) (hfa : w.frozen? ⟨b, i + m, none⟩ = false) (hfe : w.frozen? ⟨b, kB, none⟩ = false) (hroom : n - 1 + m ≤ cap) :
    Calls Try.prog 52 #[.slice (some ⟨b, 0, none⟩) n cap, .int .i64 i, .int .i64 ((i : Int) + 1), .slice (some ⟨vb, 0, none⟩) m vc] w (RepPost w b f vs n i m) := by
  have hov : ∀ la ca, (callFunc 70 #[.slice (some ⟨b, i + m, none⟩) la ca, .slice (some ⟨vb, 0, none⟩) m vc]).run Try.prog w.drew = .ok (.value (.bool false)) w.drew := fun la ca => by
    rw [run_callFunc_extern Try.func70 (by kernel_rfl) (by kernel_rfl) (by kernel_rfl) (e := Extern.SlicesOverlaps.overlaps #[63, 63] #[4]) (by kernel_rfl),
      Lib.run_overlaps_apart w.drew 63 4 46 Try.underlying63 1 node_size1 ⟨b, i + m, none⟩ ⟨vb, 0, none⟩ la ca m vc (Ne.symm hvb) tB tA kB kA hsb hsa hkA hfa hfe]
    rfl
  obtain ⟨p, rfl⟩ : ∃ p, n = i + 1 + p := ⟨n - (i + 1), by omega⟩
  have hdl : (newsOf f (i + 1 + p) i).length = p := by rw [newsOf_len]; omega
  have hrd : w.drew.rowIs b 46 cap f := hr
  have hcp1 : ∀ ty dc sc, (Builtin.copy_ #[63, 63] ty #[.slice (some ⟨b, i + m, none⟩) p dc, .slice (some ⟨b, i + 1, none⟩) p sc]).run Try.prog w.drew.drew = .ok (goInt p) (w.drew.drew.setCells b (i + m) (newsOf f (i + 1 + p) i)) := fun ty dc sc => by
    have h := run_cp (W := w.drew.drew) hr (i + m) p dc ⟨b, i + 1, none⟩ p sc (newsOf f (i + 1 + p) i) (by rw [hdl]; exact (Nat.min_self p).symm) (by rw [hdl]; omega) (newsOf_cell (W := w.drew.drew) hr hnc) (newsOf_one honf) ty
    rw [hdl] at h
    exact h
  obtain ⟨W1, hW1⟩ : ∃ W1, W1 = w.drew.drew.setCells b (i + m) (newsOf f (i + 1 + p) i) := ⟨_, rfl⟩
  have hr1 := rowIs_setCells (newsOf f (i + 1 + p) i) (i + m) w.drew.drew f hr
  rw [← hW1] at hr1
  have hcp2 : ∀ ty dl dc, m ≤ dl → (Builtin.copy_ #[63, 63] ty #[.slice (some ⟨b, i, none⟩) dl dc, .slice (some ⟨vb, 0, none⟩) m vc]).run Try.prog W1 = .ok (goInt m) (W1.setCells b i vs) := fun ty dl dc hdl' => by
    have h := run_cp hr1 i dl dc ⟨vb, 0, none⟩ m vc vs (by rw [hvl]; exact (Nat.min_eq_left hdl').symm) (by omega) (fun j v hj => by rw [Addr.add_lit, hW1, cell_setCells_ne hvb]; exact hvs j v hj) hone ty
    rw [hvl] at h
    exact h
  have hfin : RepPost w b f vs (i + 1 + p) i m (.returned (.slice (some ⟨b, 0, none⟩) (i + m + p) cap)) (W1.setCells b i vs) := by
    refine ⟨b, cap, by rw [show i + 1 + p - 1 + m = i + m + p by omega], by rw [hW1]; exact Nat.lt_of_lt_of_le hr.lt (grownBy_trans (grown_drew' w (some b)) grownBy_two).size, fun j hj => ?_, by rw [hW1]; exact grownBy_trans (grown_drew' w (some b)) grownBy_two, .inl rfl⟩
    rw [hW1]
    exact rep_rowIs (W := w.drew.drew) hr hin hvl hroom j hj
  rw [← hW1] at hcp1
  have Hfin := Lib.hid hfin
  have Hcp1 := Lib.hid hcp1
  have Hcp2 := Lib.hid hcp2
  have Hov := Lib.hid hov
  have hq1 : (0 : Int) ≤ (i : Int) := by omega
  have hq2 : (i : Int) ≤ (i : Int) + 1 := by omega
  have hq4 : (i : Int) + 1 ≤ (cap : Int) := by omega
  have hq6 : (i : Int) ≤ (cap : Int) := by omega
  have hq7 : ((i : Int) == (i : Int) + 1) = false := by simp; omega
  have hq8 : (0 : Int) ≤ (i : Int) + 1 := by omega
  have hq9 : ¬ (p = 0) := by omega
  have hqa : ¬ ((cap : Int) < (i : Int) + (m : Int) + (p : Int)) := by omega
  have hqb : ¬ ((i : Int) + (m : Int) ≤ (i : Int) + 1) := by omega
  have hqc : ¬ (cap = i + m) := by omega
  have hqd : ¬ (cap = i) := by omega
  have hqe : ¬ (cap = i + 1) := by omega
  have hw1 : IntKind.i64.wrap ((i : Int) + (m : Int)) = (i : Int) + (m : Int) := by rw [IntKind.wrap_i64]; omega
  have hw2 : (0 : Int) ≤ (i : Int) + (m : Int) := by omega
  have hw3 : (i : Int) + (m : Int) ≤ (i : Int) + (m : Int) + (p : Int) := by omega
  have hw4 : (i : Int) + 1 ≤ (i : Int) + 1 + (p : Int) := by omega
  have htn : ((i : Int) + (m : Int)).toNat = i + m := by omega
  have htn1 : ((i : Int) + 1).toNat = i + 1 := by omega
  clear hr hrd hfin hvs hcp1 hcp2 hr1 hW1 hov
  go_enter Try.func52, Try.ntmps52
  go_wp2_with fail
  go_region
  go_wp2_with (simp only [Hov.out])
  go_region_law (refine step_copy_runI rfl (.tmp 126) (.tmp 129) 63 63 rfl (.slice (some ⟨b, i + m, none⟩) p (cap - (i + m))) (.slice (some ⟨b, i + 1, none⟩) p (cap - (i + 1))) (by simp [Act.eval, Act.put] <;> omega) (by simp [Act.eval, Act.put] <;> omega) (Hcp1.out _ _ _) ?_)
  go_wp2_with (with_reducible refine wpList_copy_runI (o := ⟨some 135, _, _, _, _, _⟩) _ rfl (.tmp 133) (.tmp 134) 63 63 rfl (.slice (some ⟨b, i, none⟩) (i + m + p - i) (cap - i)) (.slice (some ⟨vb, 0, none⟩) m vc) rfl rfl (Hcp2.out _ (i + m + p - i) (cap - i) (by omega)) ?_)
  go_ret
  exact Hfin.out

set_option maxHeartbeats 4000000 in
/-- In the middle, one by one. -/
theorem repP_one (b n cap i vb vc : Nat) (f : Nat → Value) (x : Value) (w : World) (hr : w.rowIs b 46 cap f) (hin : i + 1 < n) (hnc : n ≤ cap) (hcap : cap ≤ 9223372036854775807) (hn6 : n ≤ 1000000)
    (hone : x.oneCell' = true) (honf : ∀ j, j < n → (f j).oneCell' = true) (hvs : w.cell? ⟨vb, 0, none⟩ = some x) :
    Calls Try.prog 52 #[.slice (some ⟨b, 0, none⟩) n cap, .int .i64 i, .int .i64 ((i : Int) + 1), .slice (some ⟨vb, 0, none⟩) 1 vc] w (RepPost w b f [x] n i 1) := by
  obtain ⟨p, rfl⟩ : ∃ p, n = i + 1 + p := ⟨n - (i + 1), by omega⟩
  have hdl : (newsOf f (i + 1 + p) i).length = p := by rw [newsOf_len]; omega
  have hsw : w.drew.rowIs b 46 cap f := hr
  have hcp1 : ∀ ty dl dc, 1 ≤ dl → (Builtin.copy_ #[63, 63] ty #[.slice (some ⟨b, i, none⟩) dl dc, .slice (some ⟨vb, 0, none⟩) 1 vc]).run Try.prog w.drew = .ok (goInt 1) (w.drew.setCells b i [x]) := fun ty dl dc hdl' =>
    run_cp hsw i dl dc ⟨vb, 0, none⟩ 1 vc [x] (Nat.min_eq_left hdl').symm (by simp; omega) (fun j v hj => by
      obtain ⟨rfl, rfl⟩ : j = 0 ∧ x = v := by
        cases j with
        | zero => simpa using hj
        | succ j => simp at hj
      exact hvs) (by simpa using hone) ty
  have hr1 : (w.drew.setCells b i [x]).rowIs b 46 cap (fun j => if j = i then x else f j) := (rowIs_setCells [x] i w.drew f hr).congr (fun j _ => by
    by_cases h1 : j = i
    · subst h1; simp
    · rw [if_neg h1, if_neg (by simp; omega)])
  obtain ⟨W1, hW1⟩ : ∃ W1, W1 = w.drew.setCells b i [x] := ⟨_, rfl⟩
  rw [← hW1] at hcp1 hr1
  have hcl : ∀ j v, (newsOf f (i + 1 + p) i)[j]? = some v → W1.drew.cell? ((⟨b, i + 1, none⟩ : Addr).add j) = some v := by
    intro j v hj
    have hjl := (List.getElem?_eq_some_iff.1 hj).1
    rw [hdl] at hjl
    have h2 : W1.drew.cell? ⟨b, i + 1 + j, none⟩ = some (if i + 1 + j = i then x else f (i + 1 + j)) := rowIs_cell hr1 (by omega)
    rw [if_neg (by omega)] at h2
    rw [Addr.add_lit, h2, ← hj]
    simp [newsOf, show j < p by omega]
  have hcp2 : ∀ ty dc sc, (Builtin.copy_ #[63, 63] ty #[.slice (some ⟨b, i + 1, none⟩) p dc, .slice (some ⟨b, i + 1, none⟩) p sc]).run Try.prog W1.drew = .ok (goInt p) (W1.drew.setCells b (i + 1) (newsOf f (i + 1 + p) i)) := fun ty dc sc => by
    have h := run_cp (W := W1.drew) hr1 (i + 1) p dc ⟨b, i + 1, none⟩ p sc (newsOf f (i + 1 + p) i) (by rw [hdl]; exact (Nat.min_self p).symm) (by rw [hdl]; omega) hcl (newsOf_one honf) ty
    rw [hdl] at h
    exact h
  have hfin : RepPost w b f [x] (i + 1 + p) i 1 (.returned (.slice (some ⟨b, 0, none⟩) (i + 1 + p) cap)) (W1.drew.setCells b (i + 1) (newsOf f (i + 1 + p) i)) := by
    have hg : w.grownBy (W1.drew.setCells b (i + 1) (newsOf f (i + 1 + p) i)) (some b) := by
      rw [hW1]
      exact grownBy_trans (grownBy_trans (grown_drew' w (some b)) (grownBy_setCells b [x] i _)) (grownBy_trans (grown_drew' _ (some b)) (grownBy_setCells b _ _ _))
    refine ⟨b, cap, by rw [show i + 1 + p - 1 + 1 = i + 1 + p by omega], Nat.lt_of_lt_of_le hr.lt hg.size, fun j hj => ?_, hg, .inl rfl⟩
    rw [rowIs_cell (rowIs_setCells (newsOf f (i + 1 + p) i) (i + 1) W1.drew _ hr1) (by omega)]
    congr 1
    unfold repF
    rw [hdl]
    by_cases h1 : j < i
    · rw [if_neg (by omega), if_neg (by omega), if_pos h1]
    · by_cases h2 : j = i
      · subst h2
        rw [if_neg (by omega), if_pos rfl, if_neg (by omega), if_pos (by omega)]
        simp
      · rw [if_pos (by omega), if_neg h1, if_neg (by omega)]
        simp [newsOf, show j - (i + 1) < p by omega, show i + 1 + (j - (i + 1)) = j by omega]
  have hcl3 := run_clear_none
  have Hfin := Lib.hid hfin
  have Hcp1 := Lib.hid hcp1
  have Hcp2 := Lib.hid hcp2
  have hq1 : (0 : Int) ≤ (i : Int) := by omega
  have hq2 : (i : Int) ≤ (i : Int) + 1 := by omega
  have hq4 : (i : Int) + 1 ≤ (cap : Int) := by omega
  have hq6 : (i : Int) ≤ (cap : Int) := by omega
  have hq7 : ((i : Int) == (i : Int) + 1) = false := by simp; omega
  have hq8 : (0 : Int) ≤ (i : Int) + 1 := by omega
  have hq9 : ¬ (p = 0) := by omega
  have hqa : ¬ ((cap : Int) < (i : Int) + 1 + (p : Int)) := by omega
  have hqd : ¬ (cap = i) := by omega
  have hqe : ¬ (cap = i + 1) := by omega
  have hw4 : (i : Int) + 1 ≤ (i : Int) + 1 + (p : Int) := by omega
  have htn1 : ((i : Int) + 1).toNat = i + 1 := by omega
  have hw5 : IntKind.i64.wrap ((i : Int) + 1) = (i : Int) + 1 := by rw [IntKind.wrap_i64]; omega
  have hw6 : IntKind.i64.wrap ((i : Int) + 1 + (p : Int)) = (i : Int) + 1 + (p : Int) := by rw [IntKind.wrap_i64]; omega
  have hw7 : ((i : Int) + 1 + (p : Int)).toNat = i + 1 + p := by omega
  have hw8 : (0 : Int) ≤ (i : Int) + 1 + (p : Int) := by omega
  have hw9 : (i : Int) + 1 + (p : Int) ≤ (cap : Int) := by omega
  clear hr hsw hfin hvs hcp1 hcp2 hr1 hW1 hcl honf
  go_enter Try.func52, Try.ntmps52
  go_wp2_with fail
  go_region
  go_wp2_with (with_reducible refine wpList_copy_runI (o := ⟨some 97, _, _, _, _, _⟩) _ rfl (.tmp 95) (.tmp 96) 63 63 rfl (.slice (some ⟨b, i, none⟩) (i + 1 + p - i) (cap - i)) (.slice (some ⟨vb, 0, none⟩) 1 vc) rfl rfl (Hcp1.out _ (i + 1 + p - i) (cap - i) (by omega)) ?_)
  go_region_law (refine step_copy_runI rfl (.tmp 103) (.tmp 106) 63 63 rfl (.slice (some ⟨b, i + 1, none⟩) p (cap - (i + 1))) (.slice (some ⟨b, i + 1, none⟩) p (cap - (i + 1))) (by simp [Act.eval, Act.put] <;> omega) (by simp [Act.eval, Act.put] <;> omega) (Hcp2.out _ _ _) ?_)
  go_wp2_with fail
  · go_ret
    obtain rfl : cap = i + 1 + p := by first | assumption | omega
    exact Hfin.out
  · go_ret
    exact Hfin.out

set_option maxHeartbeats 4000000 in
/-- In the middle, without room. -/
theorem repP_new (b n cap i vb m vc : Nat) (f : Nat → Value) (vs : List Value) (w : World) (hr : w.rowIs b 46 cap f) (hin : i + 1 < n) (hnc : n ≤ cap) (hcap : cap ≤ 9223372036854775807) (hn6 : n ≤ 1000000) (hm : 2 ≤ m) (hm1 : m ≤ 1000)
    (hvl : vs.length = m) (hone : ∀ u ∈ vs, u.oneCell' = true) (honf : ∀ j, j < n → (f j).oneCell' = true) (hvs : ∀ j v, vs[j]? = some v → w.cell? ⟨vb, 0 + j, none⟩ = some v) (hvw : vb < w.heap.size) (hroom : cap < n - 1 + m) :
    Calls Try.prog 52 #[.slice (some ⟨b, 0, none⟩) n cap, .int .i64 i, .int .i64 ((i : Int) + 1), .slice (some ⟨vb, 0, none⟩) m vc] w (RepPost w b f vs n i m) := by
  obtain ⟨i0, hi0, hz0, hz1, hz2⟩ := info_parts info_node
  obtain ⟨p, rfl⟩ : ∃ p, n = i + 1 + p := ⟨n - (i + 1), by omega⟩
  obtain ⟨cs, hcs⟩ : ∃ cs, cs = (List.range i).map f := ⟨_, rfl⟩
  have hcl : cs.length = i := by rw [hcs]; simp
  have hold : (Builtin.firstCells i0.size i (.slice (some ⟨b, 0, none⟩) i cap)).run Try.prog w.drew.drew = .ok cs.toArray w.drew.drew := by
    rw [hz1]
    exact run_firstCells_some w.drew.drew 1 i ⟨b, 0, none⟩ i cap cs (by omega) (fun j v hj => by
      have hjl := (List.getElem?_eq_some_iff.1 hj).1
      rw [Addr.add_lit, Nat.zero_add]
      have h1 : w.drew.drew.cell? ⟨b, j, none⟩ = some (f j) := rowIs_cell hr (by omega)
      rw [h1, ← hj, hcs]
      rw [hcl] at hjl
      simp [hjl])
  have hik : i + (m + p) = i + m + p := by omega
  have hrz : ∀ ty, (Builtin.append_ #[63, 3] ty #[.slice (some ⟨b, 0, none⟩) i cap, .int .i64 ((m : Int) + (p : Int))]).run Try.prog w.drew =
      .ok (.slice (some ⟨w.heap.size, 0, none⟩) (i + m + p) (grownCap w.drew (i + m + p) cap 46)) (w.drew.drew.alloc (.cells (cs.toArray ++ Builtin.zeroCells (Value.pointer none).cells (m + p) ++ Builtin.zeroCells (Value.pointer none).cells (grownCap w.drew (i + m + p) cap 46 - (i + m + p))) 46)) := fun ty => by
    have h := Lib.run_append_grow_zeros w.drew 63 3 ty 46 i0 _ .i64 .i64 Try.underlying63 Try.underlying3 hi0 hz0 (some ⟨b, 0, none⟩) i cap cs hold (m + p) (by omega) (by omega) (by omega) (by omega) (by rw [hz2]; omega) (by rw [hz2, hik]; exact growslice_fits (by omega) (by omega))
    rw [hik] at h
    simpa using h
  obtain ⟨G, hG⟩ : ∃ G, G = grownCap w.drew (i + m + p) cap 46 := ⟨_, rfl⟩
  rw [← hG] at hrz
  have hGn : i + m + p ≤ G := by rw [hG]; exact grownCap_ge _ _ _ _
  have hG63 : G ≤ 9223372036854775807 := by
    have := grownCap_le_maxLen w.drew (i + m + p) cap 46 (by unfold maxLen; omega)
    rw [← hG] at this
    unfold maxLen at this
    omega
  obtain ⟨ROW, hROW⟩ : ∃ ROW : Array Value, ROW = cs.toArray ++ Builtin.zeroCells (Value.pointer none).cells (m + p) ++ Builtin.zeroCells (Value.pointer none).cells (G - (i + m + p)) := ⟨_, rfl⟩
  rw [← hROW] at hrz
  have hRs : ROW.size = G := by
    rw [hROW]
    simp [Builtin.zeroCells, Value.cells, hcl]
    omega
  have hRf : ∀ j, j < i → ROW[j]? = some (f j) := by
    intro j hj
    rw [hROW, Array.append_assoc, Array.getElem?_append_left (by simpa [hcl] using hj), hcs]
    simp [hj]
  obtain ⟨gf, hgf⟩ : ∃ gf : Nat → Value, gf = fun j => ROW[j]?.getD default := ⟨_, rfl⟩
  have hr0 : (w.drew.drew.alloc (.cells ROW 46)).rowIs w.heap.size 46 G gf := by
    have h := World.rowIs_alloc w.drew.drew ROW 46 gf (fun j hj => by rw [hgf]; simp [hj])
    rw [hRs] at h
    exact h
  obtain ⟨W1, hW1⟩ : ∃ W1, W1 = w.drew.drew.alloc (.cells ROW 46) := ⟨_, rfl⟩
  rw [← hW1] at hrz hr0
  have hbw := hr.lt
  have hOb : ∀ j, j < cap → W1.cell? ⟨b, j, none⟩ = some (f j) := fun j hj => by
    have h1 : w.drew.drew.cell? ⟨b, j, none⟩ = some (f j) := rowIs_cell hr hj
    rw [hW1, World.cell?_alloc_past (w := w.drew.drew) _ b j hbw]; exact h1
  have hcpA : ∀ ty dl dc, m ≤ dl → (Builtin.copy_ #[63, 63] ty #[.slice (some ⟨w.heap.size, i, none⟩) dl dc, .slice (some ⟨vb, 0, none⟩) m vc]).run Try.prog W1 = .ok (goInt m) (W1.setCells w.heap.size i vs) := fun ty dl dc hdl => by
    have h := run_cp hr0 i dl dc ⟨vb, 0, none⟩ m vc vs (by rw [hvl]; exact (Nat.min_eq_left hdl).symm) (by omega) (fun j v hj => by
      rw [Addr.add_lit, hW1, World.cell?_alloc_past (w := w.drew.drew) _ vb _ hvw]; exact hvs j v hj) hone ty
    rw [hvl] at h
    exact h
  obtain ⟨W2, hW2⟩ : ∃ W2, W2 = W1.setCells w.heap.size i vs := ⟨_, rfl⟩
  have hr2 := rowIs_setCells vs i W1 gf hr0
  rw [← hW2] at hcpA hr2
  have hdl : (newsOf f (i + 1 + p) i).length = p := by rw [newsOf_len]; omega
  have hcpB : ∀ ty dc sc, (Builtin.copy_ #[63, 63] ty #[.slice (some ⟨w.heap.size, i + m, none⟩) p dc, .slice (some ⟨b, i + 1, none⟩) p sc]).run Try.prog W2.drew = .ok (goInt p) (W2.drew.setCells w.heap.size (i + m) (newsOf f (i + 1 + p) i)) := fun ty dc sc => by
    have h := run_cp (W := W2.drew) hr2 (i + m) p dc ⟨b, i + 1, none⟩ p sc (newsOf f (i + 1 + p) i) (by rw [hdl]; exact (Nat.min_self p).symm) (by rw [hdl]; omega) (fun j v hj => by
      have hjl := (List.getElem?_eq_some_iff.1 hj).1
      rw [hdl] at hjl
      have h1 : W2.drew.cell? ⟨b, i + 1 + j, none⟩ = some (f (i + 1 + j)) := by
        show W2.cell? _ = _
        rw [hW2, cell_setCells_ne (by omega)]
        exact hOb _ (by omega)
      rw [Addr.add_lit, h1, ← hj]
      simp [newsOf, show j < p by omega]) (newsOf_one honf) ty
    rw [hdl] at h
    exact h
  have hfin : RepPost w b f vs (i + 1 + p) i m (.returned (.slice (some ⟨w.heap.size, 0, none⟩) (i + m + p) G)) (W2.drew.setCells w.heap.size (i + m) (newsOf f (i + 1 + p) i)) := by
    have hg : w.grownBy (W2.drew.setCells w.heap.size (i + m) (newsOf f (i + 1 + p) i)) (some b) := by
      have h1 : w.grownBy W1 none := by rw [hW1]; exact grownBy_trans (grown_drew' w none) (grownBy_trans (grown_drew' _ none) (World.grownBy_alloc _ _ _))
      have h2 : W1.grownBy (W2.drew.setCells w.heap.size (i + m) (newsOf f (i + 1 + p) i)) (some w.heap.size) := by rw [hW2]; exact grownBy_trans (grownBy_setCells _ vs i W1) (grownBy_trans (grown_drew' _ _) (grownBy_setCells _ _ _ _))
      refine ⟨h2.os.trans h1.os, h2.tape.trans h1.tape, h2.output.trans h1.output, Nat.le_trans h1.size h2.size, fun k hk _ => ?_⟩
      rw [h2.block k (Nat.lt_of_lt_of_le hk h1.size) (by simp; omega), h1.block k hk (by simp)]
    have hr3 := rowIs_setCells (newsOf f (i + 1 + p) i) (i + m) W2.drew _ hr2
    refine ⟨w.heap.size, G, by rw [show i + 1 + p - 1 + m = i + m + p by omega], hr3.lt, fun j hj => ?_, hg, .inr (Nat.le_refl _)⟩
    rw [rowIs_cell hr3 (by omega)]
    congr 1
    unfold repF
    rw [hdl]
    by_cases h1 : j < i
    · rw [if_neg (by omega), if_neg (by omega), if_pos h1, hgf]
      simp [hRf j h1]
    · by_cases h2 : j < i + m
      · rw [if_neg (by omega), if_pos (by omega), if_neg h1, if_pos h2]
      · rw [if_pos (by omega), if_neg h1, if_neg h2]
        simp [newsOf, show j - (i + m) < p by omega, show i + 1 + (j - (i + m)) = j + 1 - m by omega]
  have Hfin := Lib.hid hfin
  have Hrz := Lib.hid hrz
  have HcpA := Lib.hid hcpA
  have HcpB := Lib.hid hcpB
  have hq1 : (0 : Int) ≤ (i : Int) := by omega
  have hq2 : (i : Int) ≤ (i : Int) + 1 := by omega
  have hq4 : (i : Int) + 1 ≤ (cap : Int) := by omega
  have hq6 : (i : Int) ≤ (cap : Int) := by omega
  have hq7 : ((i : Int) == (i : Int) + 1) = false := by simp; omega
  have hq8 : (0 : Int) ≤ (i : Int) + 1 := by omega
  have hq9 : ¬ (p = 0) := by omega
  have hqa : (cap : Int) < (i : Int) + (m : Int) + (p : Int) := by omega
  have hqc : ¬ (G = i + m) := by omega
  have hqd : ¬ (G = i) := by omega
  have hqe : ¬ (cap = i + 1) := by omega
  have hw1 : IntKind.i64.wrap ((i : Int) + (m : Int)) = (i : Int) + (m : Int) := by rw [IntKind.wrap_i64]; omega
  have hw2 : (0 : Int) ≤ (i : Int) + (m : Int) := by omega
  have hw3 : (i : Int) + (m : Int) ≤ (i : Int) + (m : Int) + (p : Int) := by omega
  have hw4 : (i : Int) + 1 ≤ (i : Int) + 1 + (p : Int) := by omega
  have hw5 : (i : Int) + (m : Int) + (p : Int) - (i : Int) = (m : Int) + (p : Int) := by omega
  have hw6 : IntKind.i64.wrap ((m : Int) + (p : Int)) = (m : Int) + (p : Int) := by rw [IntKind.wrap_i64]; omega
  have htn : ((i : Int) + (m : Int)).toNat = i + m := by omega
  have htn1 : ((i : Int) + 1).toNat = i + 1 := by omega
  obtain ⟨gb, hgb⟩ : ∃ gb, gb = w.heap.size := ⟨_, rfl⟩
  rw [← hgb] at Hrz HcpA HcpB Hfin
  clear hr hfin hvs hrz hcpA hcpB hr0 hr2 hW1 hW2 hOb hRf hRs hROW hgf hold hcs hcl hG honf hone hvl hik hgb hbw hvw
  go_enter Try.func52, Try.ntmps52
  go_wp2_with fail
  go_region
  go_wp2_with (first
    | (at_builtin; refine Lib.wpList_append_run _ rfl _ _ _ _ rfl _ _ rfl rfl _ _ (Hrz.out _) ?_)
    | (with_reducible refine wpList_copy_runI (o := ⟨some 72, _, _, _, _, _⟩) _ rfl (.tmp 70) (.tmp 71) 63 63 rfl (.slice (some ⟨gb, i, none⟩) (i + m + p - i) (G - i)) (.slice (some ⟨vb, 0, none⟩) m vc) rfl rfl (HcpA.out _ (i + m + p - i) (G - i) (by omega)) ?_))
  go_region_law (refine step_copy_runI rfl (.tmp 78) (.tmp 81) 63 63 rfl (.slice (some ⟨gb, i + m, none⟩) p (G - (i + m))) (.slice (some ⟨b, i + 1, none⟩) p (cap - (i + 1))) (by simp [Act.eval, Act.put] <;> omega) (by simp [Act.eval, Act.put] <;> omega) (HcpB.out _ _ _) ?_)
  go_wp2_with fail
  go_ret
  exact Hfin.out

/-- A row of its own, told by its cells. -/
theorem own_rowIs {w : World} {B n : Nat} {g c : Nat} {xs : List Value} (h : w.ownsRow B 46 1 (.slice (some ⟨g, 0, none⟩) n c) n xs) :
    ∃ f : Nat → Value, w.rowIs g 46 c f ∧ n ≤ c ∧ c ≤ maxLen ∧ (∀ j, j < n → xs[j]? = some (f j)) := by
  obtain ⟨h1, h2⟩ := h
  rcases h2 with ⟨h3, _⟩ | ⟨g', cap, cur, h3, h4, h5, h6, h7, h8, h9⟩
  · cases h3
  · simp only [Value.slice.injEq, Option.some.injEq, Addr.mk.injEq, and_true, true_and] at h3
    obtain ⟨rfl, rfl⟩ := h3
    refine ⟨fun j => cur[j]?.getD default, ⟨cur, h5, by omega, fun j hj => ?_⟩, h6, h7, fun j hj => ?_⟩
    · simp [show j < cur.size by omega]
    · rw [← h9, List.getElem?_take, if_pos (by omega), Array.getElem?_toList]
      simp [show j < cur.size by omega]

/-- All ways. -/
theorem replaceP_any (b n cap i vb m : Nat) (f : Nat → Value) (x : Value) (vs : List Value) (w : World) (hr : w.rowIs b 46 cap f) (hin : i < n) (hnc : n ≤ cap) (hcap : cap ≤ 9223372036854775807) (hn6 : n ≤ 1000000) (hm : 1 ≤ m) (hm1 : m ≤ 1000)
    (hvs : vs = Rp m [x]) (hone : x.oneCell' = true) (honf : ∀ j, j < n → (f j).oneCell' = true) (hvo : w.heap[vb]? = some (.cells vs.toArray 46 (0, 0))) (hvb : vb ≠ b) :
    Calls Try.prog 52 #[.slice (some ⟨b, 0, none⟩) n cap, .int .i64 i, .int .i64 ((i : Int) + 1), .slice (some ⟨vb, 0, none⟩) m m] w (RepPost w b f vs n i m) := by
  have hvl : vs.length = m := by rw [hvs, Rp_len]; simp
  have hone' : ∀ u ∈ vs, u.oneCell' = true := fun u hu => by
    rw [hvs] at hu
    have := Rp_mem hu
    simp only [List.mem_singleton] at this
    rw [this]; exact hone
  have hcell : ∀ j v, vs[j]? = some v → w.cell? ⟨vb, 0 + j, none⟩ = some v := fun j v hj => by
    rw [Nat.zero_add, Joins.cell_of_block hvo]
    simpa using hj
  have hvw : vb < w.heap.size := (Array.getElem?_eq_some_iff.1 hvo).1
  rcases Nat.lt_or_ge (i + 1) n with h1 | h1
  · rcases Nat.lt_or_ge 1 m with h2 | h2
    · rcases Nat.lt_or_ge cap (n - 1 + m) with h3 | h3
      · exact repP_new b n cap i vb m m f vs w hr h1 hnc hcap hn6 h2 hm1 hvl hone' honf hcell hvw h3
      · obtain ⟨c, hb1, hb2, hb3⟩ := hr
        have hr' : w.rowIs b 46 cap f := ⟨c, hb1, hb2, hb3⟩
        exact repP_shift b n cap i vb m m f vs w hr' h1 hnc hcap hn6 h2 hm1 hvl hone' honf hcell hvb 46 46 m cap (by simp [World.shape?, hvo, hvl]) (by omega) (by simp [World.shape?, hb1, hb2]) (rowIs_thaw hr') (rowIs_thaw hr') h3
    · obtain rfl : m = 1 := by omega
      have hv1 : vs = [x] := by rw [hvs]; rfl
      subst hv1
      exact repP_one b n cap i vb 1 f x w hr h1 hnc hcap hn6 hone honf (hcell 0 x rfl)
  · obtain rfl : n = i + 1 := by omega
    rcases Nat.lt_or_ge cap (i + m) with h3 | h3
    · exact repP_grow b cap i vb m m f vs w hr hnc hcap hn6 hm hm1 hvl hone' hcell h3
    · exact repP_room b cap i vb m m f vs w hr hnc hcap hn6 hm hm1 hvl hone' hcell h3

end Go.Proofs.Ytlbaelehmoidpaa

/- TreeC -/
/- A head is cut off a node: (*node).cut. -/
namespace Go.Proofs.Ytlbaelehmoidpaa
set_option maxRecDepth 100000
open Go.RowKit

/-- Outside of the blocks from p to m nothing has turned. -/
structure Apart (p m : Nat) (w w' : World) : Prop where
  os : w'.os = w.os
  tape : w'.tape = w.tape
  output : w'.output = w.output
  size : w.heap.size ≤ w'.heap.size
  block : ∀ k, k < w.heap.size → (k < p ∨ m ≤ k) → w'.heap[k]? = w.heap[k]?

/-- What can be read of nodes that lie in blocks of S. -/
def RS (w : World) (S : Nat → Prop) : H → List Value → Prop
  | .z, vs => vs = []
  | .c k r, vs => ∃ (p : Nat) (ao : Option Addr) (c : Nat) (us vs' : List Value), vs = .pointer (some ⟨p, 0, none⟩) :: vs' ∧ S p ∧ w.cell? ⟨p, 0, none⟩ = some (.slice ao k.cnt c) ∧
      (0 < k.cnt → ∃ g, ao = some ⟨g, 0, none⟩ ∧ S g ∧ g < w.heap.size ∧ ∀ j, j < k.cnt → w.cell? ⟨g, j, none⟩ = us[j]?) ∧ RS w S k us ∧ RS w S r vs'
def RSn (w : World) (S : Nat → Prop) (f : H) (p : Nat) : Prop :=
  ∃ (ao : Option Addr) (c : Nat) (us : List Value), S p ∧ w.cell? ⟨p, 0, none⟩ = some (.slice ao f.cnt c) ∧ (0 < f.cnt → ∃ g, ao = some ⟨g, 0, none⟩ ∧ S g ∧ g < w.heap.size ∧ ∀ j, j < f.cnt → w.cell? ⟨g, j, none⟩ = us[j]?) ∧ RS w S f us

theorem RS.cons {w : World} {S : Nat → Prop} {k r : H} {vs : List Value} : RS w S (.c k r) vs ↔ ∃ (p : Nat) (vs' : List Value), vs = .pointer (some ⟨p, 0, none⟩) :: vs' ∧ RSn w S k p ∧ RS w S r vs' := by
  constructor
  · rintro ⟨p, ao, c, us, vs', h1, h2, h3, h4, h5, h6⟩; exact ⟨p, vs', h1, ⟨ao, c, us, h2, h3, h4, h5⟩, h6⟩
  · rintro ⟨p, vs', h1, ⟨ao, c, us, h2, h3, h4, h5⟩, h6⟩; exact ⟨p, ao, c, us, vs', h1, h2, h3, h4, h5, h6⟩

theorem RS.length {w : World} {S : Nat → Prop} {f : H} {vs : List Value} (h : RS w S f vs) : vs.length = f.cnt := by
  induction f generalizing vs with
  | z => simp only [RS] at h; subst h; rfl
  | c k r _ ih =>
    obtain ⟨p, vs', rfl, _, h1⟩ := RS.cons.1 h
    simp [H.cnt, ih h1]

theorem RS.move {w w' : World} {S S' : Nat → Prop} (hs : w.heap.size ≤ w'.heap.size) (hS : ∀ b, S b → S' b) (hb : ∀ b, b < w.heap.size → S b → w'.heap[b]? = w.heap[b]?) {f : H} {vs : List Value} (h : RS w S f vs) : RS w' S' f vs := by
  induction f generalizing vs with
  | z => exact h
  | c k r ihk ihr =>
    obtain ⟨p, ao, c, us, vs', h1, h2, h3, h4, h5, h6⟩ := h
    refine ⟨p, ao, c, us, vs', h1, hS p h2, ?_, fun hp => ?_, ihk h5, ihr h6⟩
    · rw [World.cell?_of_block (a := ⟨p, 0, none⟩) (hb p (World.block_lt_of_cell? w _ h3) h2)]; exact h3
    · obtain ⟨g, q1, q2, q3, q4⟩ := h4 hp
      exact ⟨g, q1, hS g q2, Nat.lt_of_lt_of_le q3 hs, fun j hj => (World.cell?_of_block (a := ⟨g, j, none⟩) (hb g q3 q2)).trans (q4 j hj)⟩

theorem RSn.move {w w' : World} {S S' : Nat → Prop} (hs : w.heap.size ≤ w'.heap.size) (hS : ∀ b, S b → S' b) (hb : ∀ b, b < w.heap.size → S b → w'.heap[b]? = w.heap[b]?) {f : H} {p : Nat} (h : RSn w S f p) : RSn w' S' f p := by
  have h1 : RS w S (.c f .z) [.pointer (some ⟨p, 0, none⟩)] := RS.cons.2 ⟨p, [], rfl, h, rfl⟩
  obtain ⟨p', vs', h2, h3, _⟩ := RS.cons.1 (h1.move hs hS hb)
  simp only [List.cons.injEq, Value.pointer.injEq, Option.some.injEq, Addr.mk.injEq, and_true] at h2
  rw [h2.1]
  exact h3

theorem RS.rk {w : World} {S : Nat → Prop} {f : H} {vs : List Value} (h : RS w S f vs) : RK w f vs := by
  induction f generalizing vs with
  | z => exact h
  | c k r ihk ihr =>
    obtain ⟨p, ao, c, us, vs', h1, h2, h3, h4, h5, h6⟩ := h
    refine ⟨p, ao, c, us, vs', h1, h3, fun hp => ?_, ihk h5, ihr h6⟩
    obtain ⟨g, q1, _, q3, q4⟩ := h4 hp
    exact ⟨g, q1, q3, q4⟩
theorem RSn.rnd {w : World} {S : Nat → Prop} {f : H} {p : Nat} (h : RSn w S f p) : RNd w f p := by
  obtain ⟨ao, c, us, h2, h3, h4, h5⟩ := h
  refine ⟨ao, c, us, h3, fun hp => ?_, h5.rk⟩
  obtain ⟨g, q1, _, q3, q4⟩ := h4 hp
  exact ⟨g, q1, q3, q4⟩

theorem Kids.rs {w : World} {S : Nat → Prop} {f : H} {a : Option Nat} {vs : List Value} {lo hi : Nat} (h : Kids w f a vs lo hi) (hS : ∀ b, lo ≤ b → b < hi → a ≠ some b → S b) : RS w S f vs := by
  induction f generalizing a vs lo hi with
  | z => exact h
  | c k r ihk ihr =>
    obtain ⟨p, m, ao, c, us, vs', h1, h2, h3, h4, h5, h6, h7, h8, h9, h10⟩ := h
    have hin : ∀ b, p ≤ b → b < m → S b := fun b q1 q2 => hS b (by omega) (by omega) (fun e => by have := h5 b e; omega)
    refine ⟨p, ao, c, us, vs', h1, hin p (Nat.le_refl _) h3, Joins.cell_of_block h6 0, fun hp => ?_, ihk h9 (fun b q1 q2 _ => hin b (by omega) q2), ihr h10 (fun b q1 q2 q3 => hS b (by omega) q2 q3)⟩
    obtain ⟨g, e1, e2, e3⟩ := own_cells h7 hp
    have hg : (Value.slice ao k.cnt c).ownBlock = some g := by rw [e1]; rfl
    exact ⟨g, e1, hin g (by have := (h7.lt g hg).1; omega) (h8 g hg), e2, e3⟩

/-- The branch number i, and those ahead of it and behind it. -/
theorem Kids.split {w : World} {t d k r : H} {a : Option Nat} {vs : List Value} {lo hi i : Nat} (h : Kids w t a vs lo hi) (h1 : d.app (.c k r) = t) (h2 : d.cnt = i) :
    ∃ q mq, vs[i]? = some (.pointer (some ⟨q, 0, none⟩)) ∧ lo ≤ q ∧ q < mq ∧ mq ≤ hi ∧ (∀ b, a = some b → b < q ∨ mq ≤ b) ∧ Kids w d a (vs.take i) lo q ∧ Nd w k q mq ∧ Kids w r a (vs.drop (i + 1)) mq hi := by
  induction d generalizing t vs lo i with
  | z =>
    subst h1; subst h2
    obtain ⟨p, m, vs', rfl, q1, q2, q3, q4, q5⟩ := Kids.cons.1 h
    have : p < m := by obtain ⟨_, _, _, h7, _⟩ := q4; exact h7
    exact ⟨p, m, rfl, q1, this, q2, q3, rfl, q4, q5⟩
  | c e g _ ih =>
    subst h1; subst h2
    obtain ⟨p, m, vs', rfl, q1, q2, q3, q4, q5⟩ := Kids.cons.1 h
    obtain ⟨p', m', k1, k2, k3, k4, k5, k6, k7, k8⟩ := ih q5 rfl rfl
    have : p < m := by obtain ⟨_, _, _, h7, _⟩ := q4; exact h7
    refine ⟨p', m', by simp only [H.cnt, List.getElem?_cons_succ]; exact k1, by omega, k3, k4, k5, ?_, k7, by simp only [H.cnt, List.drop_succ_cons]; exact k8⟩
    simp only [H.cnt, List.take_succ_cons]
    exact Kids.cons.2 ⟨p, m, _, rfl, q1, k2, q3, q4, k6⟩

theorem Kids.ptr {w : World} {f : H} {a : Option Nat} {vs : List Value} {lo hi : Nat} (h : Kids w f a vs lo hi) : ∀ u ∈ vs, ∃ q, u = .pointer (some ⟨q, 0, none⟩) := by
  induction f generalizing a vs lo hi with
  | z => simp only [Kids] at h; subst h; intro u hu; cases hu
  | c k r _ ihr =>
    obtain ⟨p, m, vs', rfl, _, _, _, _, h1⟩ := Kids.cons.1 h
    intro u hu
    rcases List.mem_cons.1 hu with rfl | hu
    · exact ⟨p, rfl⟩
    · exact ihr h1 u hu

theorem RS.app {w : World} {S : Nat → Prop} {d e : H} {us vs : List Value} (h : RS w S d us) (h' : RS w S e vs) : RS w S (d.app e) (us ++ vs) := by
  induction d generalizing us with
  | z => simp only [RS] at h; subst h; exact h'
  | c k r _ ih =>
    obtain ⟨p, us', rfl, h1, h2⟩ := RS.cons.1 h
    exact RS.cons.2 ⟨p, us' ++ vs, rfl, h1, ih h2⟩
theorem RS.rep {w : World} {S : Nat → Prop} {k r : H} {q : Nat} {vs : List Value} (hk : RSn w S k q) (hr : RS w S r vs) (n : Nat) : RS w S (H.rep n k r) (Rp n [.pointer (some ⟨q, 0, none⟩)] ++ vs) := by
  induction n with
  | zero => simpa [H.rep, Rp] using hr
  | succ n ih => exact RS.cons.2 ⟨q, _, rfl, hk, ih⟩

def CutS (w : World) (p m : Nat) : Nat → Prop := fun b => (p ≤ b ∧ b < m) ∨ w.heap.size ≤ b
def CutPost (w : World) (k : H × Bool) (p m : Nat) (e : Ending) (w' : World) : Prop := e = .returned (.bool k.2) ∧ RSn w' (CutS w p m) k.1 p ∧ Apart p m w w'

/-- The pointers of a row behind the other one. -/
theorem list_at {us : List Value} {f : Nat → Value} {K : Nat} (hl : us.length = K) (hf : ∀ j, j < K → us[j]? = some (f j)) (ls : List Value) (F : Nat → Value) (n i m : Nat) (hn : n = K - 1 + m) (hi : i < K) (hls : ls.length = m)
    (hF : ∀ j, j < n → F j = if j < i then f j else if j < i + m then ls[j - i]?.getD default else f (j + 1 - m)) : ∀ j, j < n → some (F j) = (us.take i ++ (ls ++ us.drop (i + 1)))[j]? := by
  intro j hj
  have htl : (us.take i).length = i := by rw [List.length_take]; omega
  rw [hF j hj]
  by_cases h1 : j < i
  · rw [if_pos h1, List.getElem?_append_left (by omega), List.getElem?_take, if_pos h1, hf j (by omega)]
  · rw [if_neg h1, List.getElem?_append_right (by omega), htl]
    by_cases h2 : j < i + m
    · rw [if_pos h2, List.getElem?_append_left (by omega), List.getElem?_eq_getElem (by omega)]
      rfl
    · rw [if_neg h2, List.getElem?_append_right (by omega), List.getElem?_drop, hls, show i + 1 + (j - i - m) = j + 1 - m by omega, hf _ (by omega)]

theorem kids_moved {w w' : World} {p m lo hi ga : Nat} {f : H} {vs : List Value} (h : Kids w f (some ga) vs lo hi) (hlo : p < lo) (hhi : hi ≤ m) (hs : w.heap.size ≤ w'.heap.size)
    (hb : ∀ b, b < w.heap.size → lo ≤ b → b < hi → b ≠ ga → w'.heap[b]? = w.heap[b]?) : RS w' (fun b => CutS w p m b ∧ b ≠ p) f vs :=
  (h.rs (S := fun b => lo ≤ b ∧ b < hi ∧ b ≠ ga) (fun b h1 h2 h3 => ⟨h1, h2, fun e => h3 (by rw [e])⟩)).move hs (fun b hb' => ⟨.inl ⟨by omega, by omega⟩, by omega⟩) (fun b h1 h2 => hb b h1 h2.1 h2.2.1 h2.2.2)

theorem Apart.mono {p m q mq : Nat} {w w' : World} (h : Apart q mq w w') (h1 : p ≤ q) (h2 : mq ≤ m) : Apart p m w w' := ⟨h.os, h.tape, h.output, h.size, fun k hk hp => h.block k hk (by omega)⟩
theorem Apart.grown {p m g : Nat} {w w2 w' : World} (h : Apart p m w w2) (hg : w2.grownBy w' (some g)) (h1 : p ≤ g) (h2 : g < m) : Apart p m w w' :=
  ⟨hg.os.trans h.os, hg.tape.trans h.tape, hg.output.trans h.output, Nat.le_trans h.size hg.size, fun k hk hp => (hg.block k (Nat.lt_of_lt_of_le hk h.size) (by simp; omega)).trans (h.block k hk hp)⟩
theorem Apart.new {p m : Nat} {w w2 w' : World} (h : Apart p m w w2) (hg : w2.grownBy w' none) : Apart p m w w' :=
  ⟨hg.os.trans h.os, hg.tape.trans h.tape, hg.output.trans h.output, Nat.le_trans h.size hg.size, fun k hk hp => (hg.block k (Nat.lt_of_lt_of_le hk h.size) (by simp)).trans (h.block k hk hp)⟩
theorem Apart.refl (p m : Nat) (w : World) : Apart p m w w := ⟨rfl, rfl, rfl, Nat.le_refl _, fun _ _ _ => rfl⟩

/-- The node's row is stored. -/
theorem cut_store {w w5 : World} {p m g c K : Nat} {t : H} {ls : List Value} {v0 : Value} (hpm : p < m) (ha : Apart p m w w5) (hp : w5.heap[p]? = some (.cells #[v0] 65 (0, 0))) (hK : K = t.cnt)
    (hg : CutS w p m g) (hgp : g ≠ p) (hgs : g < w5.heap.size) (hc : ∀ j, j < K → w5.cell? ⟨g, j, none⟩ = ls[j]?) (hr : RS w5 (fun b => CutS w p m b ∧ b ≠ p) t ls) (b : Bool) :
    CutPost w (t, b) p m (.returned (.bool b)) (w5.setCell ⟨p, 0, none⟩ (.slice (some ⟨g, 0, none⟩) K c)) := by
  have hps : p < w5.heap.size := (Array.getElem?_eq_some_iff.1 hp).1
  have hgr : w5.grownBy (w5.setCell ⟨p, 0, none⟩ (.slice (some ⟨g, 0, none⟩) K c)) (some p) := ⟨rfl, rfl, rfl, by simp [World.setCell], fun k _ hk => heap_setCell_other w5 ⟨p, 0, none⟩ k _ (fun e => hk (by simp [e]))⟩
  have hnb := Joins.block_setCell (i := 0) hp (.slice (some ⟨g, 0, none⟩) K c)
  have hcp : (w5.setCell ⟨p, 0, none⟩ (.slice (some ⟨g, 0, none⟩) K c)).cell? ⟨p, 0, none⟩ = some (.slice (some ⟨g, 0, none⟩) K c) := by
    rw [Joins.cell_of_block hnb]; rfl
  have hsame : ∀ b, b < w5.heap.size → b ≠ p → (w5.setCell ⟨p, 0, none⟩ (.slice (some ⟨g, 0, none⟩) K c)).heap[b]? = w5.heap[b]? := fun b hb hne => hgr.block b hb (by simp; exact hne)
  refine ⟨rfl, ⟨some ⟨g, 0, none⟩, c, ls, .inl ⟨Nat.le_refl _, hpm⟩, by rw [← hK]; exact hcp, fun _ => ⟨g, rfl, hg, Nat.lt_of_lt_of_le hgs hgr.size, fun j hj => ?_⟩, hr.move hgr.size (fun b hb => hb.1) (fun b h1 h2 => hsame b h1 h2.2)⟩, ha.grown hgr (Nat.le_refl _) hpm⟩
  rw [World.cell?_of_block (a := ⟨g, j, none⟩) (hsame g hgs hgp)]
  exact hc j (by rw [hK]; exact hj)

/-- slices.Repeat of one pointer. -/
theorem repeat_node (q n : Nat) (hn : 1 ≤ n) (hn9 : n ≤ 9) (w : World) :
    Calls Try.prog 51 #[.slice (some ⟨w.heap.size, 0, none⟩) 1 1, .int .i64 n] (w.alloc (.cells #[.pointer (some ⟨q, 0, none⟩)] 46)) fun e w' =>
      e = .returned (.slice (some ⟨w.heap.size + 1, 0, none⟩) n n) ∧ w'.heap[w.heap.size + 1]? = some (.cells (Rp n [.pointer (some ⟨q, 0, none⟩)]).toArray 46 (0, 0)) ∧ w.grownBy w' none := by
  have h := repeatP_any w.heap.size 0 1 1 n [.pointer (some ⟨q, 0, none⟩)] (w.alloc (.cells #[.pointer (some ⟨q, 0, none⟩)] 46)) rfl (Nat.le_refl _) hn (by omega) (by simp [Value.oneCell']) (cell_one_new _ _ _) (by simp)
  simp only [Nat.one_mul] at h
  have hs : (w.alloc (.cells #[.pointer (some ⟨q, 0, none⟩)] 46)).heap.size = w.heap.size + 1 := by simp
  rw [hs] at h
  refine h.mono ?_
  rintro e w' ⟨rfl, ho, hb⟩
  refine ⟨rfl, own_tight ho, hb.os, hb.tape, hb.output, ?_, fun k hk _ => ?_⟩
  · have := hb.size; omega
  · rw [hb.block k (by omega)]
    exact heap_alloc_old w _ hk

theorem cut_past' {n : Nat} {d k r f : H} {h hc hk x : Nat} (hf : H.cut n f h = (d.app (H.cut n (.c k r) hc).1, (H.cut n (.c k r) hc).2)) (hk' : H.heads k = (hk : Int)) (hx : hc = hk + x) :
    H.cut n f h = ((d.app (.c k .z)).app (H.cut n r x).1, (H.cut n r x).2) := by
  rw [hf, H.cut_past (.inr (by omega)), H.app_assoc, show ((hc : Nat) : Int) - H.heads k = (x : Int) by omega]
  rfl

set_option maxHeartbeats 4000000 in
theorem node_cut (n : Nat) (hn : 1 ≤ n) (hn9 : n ≤ 9) (N : Nat) : ∀ (f : H) (p m h : Nat) (w : World), f.body.length < N → f.body.length ≤ 1000 → h ≤ 1000 → Nd w f p m →
    Calls Try.prog 28 #[.pointer (some ⟨p, 0, none⟩), .int .i64 h, .int .i64 n] w (CutPost w (H.cut n f h) p m) := by
  induction N with
  | zero => intro f p m h w h; omega
  | succ N ih =>
    intro f p m h w hN hl hh hnd
    obtain ⟨ao, c, us, q1, q2, q3, q4, q5⟩ := hnd
    have hct := H.cnt_le f
    have xp : w.cell? ⟨p, 0, none⟩ = some (.slice ao f.cnt c) := Joins.cell_of_block q2 0
    have hps : p < w.heap.size := (Array.getElem?_eq_some_iff.1 q2).1
    have hself : RSn w (CutS w p m) f p := ⟨ao, c, us, .inl ⟨Nat.le_refl _, q1⟩, xp, fun hp => by
      obtain ⟨g, e1, e2, e3⟩ := own_cells q3 hp
      have hg : (Value.slice ao f.cnt c).ownBlock = some g := by rw [e1]; rfl
      exact ⟨g, e1, .inl ⟨by have := (q3.lt g hg).1; omega, q4 g hg⟩, e2, e3⟩, q5.rs (fun b h1 h2 _ => .inl ⟨by omega, h2⟩)⟩
    obtain ⟨K, hK⟩ : ∃ K, K = f.cnt := ⟨_, rfl⟩
    rw [← hK] at xp q2 q3 q4 q5
    have hK1 : K ≤ 1000 := by omega
    have IH := Lib.hid ih
    have HN := Lib.hid hN
    have HK := Lib.hid hK
    have Hl := Lib.hid hl
    have Hq2 := Lib.hid q2
    have Hq3 := Lib.hid q3
    have Hq4 := Lib.hid q4
    have Hq5 := Lib.hid q5
    have Hself := Lib.hid hself
    clear ih hN hK hl q2 q3 q4 q5 hct hself
    go_enter Try.func28, Try.ntmps28
    go_wp2_with fail
    go_loop [1, 16] (fun v1 v16 => ∃ (i hc : Nat) (d u : H), Hid (d.app u = f ∧ d.cnt = i ∧ H.cut n f h = (d.app (H.cut n u hc).1, (H.cut n u hc).2)) ∧ hc ≤ 1000 ∧ i + u.cnt = K ∧ v1 = .int .i64 hc ∧ v16 = .int .i64 i) (fun _ v16 => K - (intOf v16).toNat)
    case atStart => exact ⟨0, h, .z, f, ⟨rfl, rfl, rfl⟩, hh, by rw [HK.out]; simp, rfl, rfl⟩
    case round =>
      obtain ⟨i, hc, d, u, HU, hhc, hci, rfl, rfl⟩ := hrel
      by_cases hlt : i < K
      · obtain ⟨k, r, rfl⟩ : ∃ k r, u = .c k r := H.cnt_pos (by omega)
        obtain ⟨h1, h2, h3⟩ := HU.out
        obtain ⟨q, mq, x1, x2, x3, x4, x5, x6, x7, x8⟩ := Hq5.out.split h1 h2
        obtain ⟨ga, cc, hva⟩ := Joins.ownsRow_form Hq3.out (by omega)
        simp only [Value.slice.injEq, true_and] at hva
        obtain ⟨rfl, rfl⟩ := hva
        have y1 : w.cell? ⟨ga, i, none⟩ = some (.pointer (some ⟨q, 0, none⟩)) := (Hq3.out.cellAt i (by omega)).trans x1
        have hbody : d.body.length + (k.body.length + 1 + r.body.length) = f.body.length := by rw [← h1, H.app_body, List.length_append, H.body_c, List.length_append, H.enc_len]
        have hNk : k.body.length < N := by have := HN.out; omega
        have hlk : k.body.length ≤ 1000 := by have := Hl.out; omega
        have kn := Lib.hid (node_heads (k.body.length + 1) k q mq w (by omega) hlk x7)
        have ki := Lib.hid (node_isHead k q mq w x7)
        have kc := Lib.hid (IH.out k q mq hc w hNk hlk hhc x7)
        have hks := Lib.hid (Hq3.out.1)
        obtain ⟨F, hF1, hF2, hF3, hF4⟩ := own_rowIs Hq3.out
        unfold maxLen at hF3
        have hptr : ∀ j, j < K → (F j).oneCell' = true := by
          intro j hj
          have e1 := hF4 j hj
          have e2 := Hq5.out.ptr _ (List.mem_of_getElem? e1)
          obtain ⟨y, e3⟩ := e2
          rw [e3]; simp [Value.oneCell']
        have hgl : p + 1 ≤ ga := (Hq3.out.lt ga rfl).1
        have hgs : ga < w.heap.size := (Hq3.out.lt ga rfl).2
        have hgm : ga < m := Hq4.out ga rfl
        have hgq : ga < q ∨ mq ≤ ga := x5 ga rfl
        have hqs : q < w.heap.size := by obtain ⟨_, _, _, _, k2, _⟩ := x7; exact (Array.getElem?_eq_some_iff.1 k2).1
        have hus : us = us.take i ++ (.pointer (some ⟨q, 0, none⟩) :: us.drop (i + 1)) := by
          have hil : i < us.length := (List.getElem?_eq_some_iff.1 x1).1
          have hge : us[i] = .pointer (some ⟨q, 0, none⟩) := by rw [List.getElem?_eq_getElem hil] at x1; exact Option.some.inj x1
          conv => lhs; rw [← List.take_append_drop i us]
          rw [List.drop_eq_getElem_cons hil, hge]
        obtain ⟨hk, hhk⟩ : ∃ hk : Nat, hk = H.noughts k.enc := ⟨_, rfl⟩
        have hkk : H.heads k = (hk : Int) := by rw [hhk]; rfl
        rw [hkk] at kn
        by_cases hge : hk ≤ hc
        · obtain ⟨x, hx⟩ : ∃ x, hc = hk + x := ⟨hc - hk, by omega⟩
          have Hn := Lib.hid (cut_past' h3 hkk hx)
          subst hx
          have Hci := Lib.hid hci
          have hxx : x ≤ 1000 := by omega
          clear h1 h2 h3 x1 x2 x3 x4 x5 x6 x7 x8 hbody hhk hkk hci hF1 hF2 hF3 hF4 hus hNk hlk kc ki
          go_wp2_with fail
          refine (kn.out).mono ?_
          rintro ee w' ⟨rfl, rfl⟩
          go_wp2_with fail
          go_round
          case rel =>
            obtain ⟨h1, h2, h3⟩ := HU.out
            exact ⟨i + 1, x, d.app (.c k .z), r, ⟨by rw [H.app_assoc]; exact h1, by rw [H.app_cnt, h2]; rfl, Hn.out⟩, hxx, by have := Hci.out; simp only [H.cnt] at this; omega, by go_num, by go_num⟩
          case measure => simp [intOf]; omega
        · have hlt0 : (hc : Int) < H.heads k := by omega
          by_cases hz : k = .z
          · subst hz
            have hcut : H.cut n f h = (d.app r, true) := by rw [h3, H.cut_head (by omega) hlt0]
            rw [hcut]
            have hone : ∀ j, j < K → (F j).oneCell' = true := fun j hj => hptr j hj
            have kd := Lib.hid (deleteP_any ga K c i F w hF1 hlt hF2 hF3 hone)
            have hfin : ∀ w2, w2.rowIs ga 46 c (delF F K i) → w.grownBy w2 (some ga) → CutPost w (d.app r, true) p m (.returned (.bool true)) (w2.setCell ⟨p, 0, none⟩ (.slice (some ⟨ga, 0, none⟩) (K - 1) c)) := by
              intro w2 hR hG
              refine cut_store (ls := us.take i ++ us.drop (i + 1)) (v0 := .slice (some ⟨ga, 0, none⟩) K c) (by omega) ((Apart.refl p m w).grown hG (by omega) hgm) (by rw [hG.block p hps (by simp; omega)]; exact Hq2.out) ?_ (.inl ⟨by omega, hgm⟩) (by omega) hR.lt ?_ ?_ true
              · rw [H.app_cnt, h2]; simp only [H.cnt] at hci; omega
              · intro j hj
                rw [rowIs_cell hR (by omega)]
                have hl := list_at (hks.out.trans (Nat.mul_one K)) (fun j hj => hF4 j hj) [] (delF F K i) (K - 1) i 0 rfl hlt rfl (fun j hj => by
                  unfold delF
                  rw [if_pos (by omega)]
                  by_cases h4 : j < i
                  · rw [if_pos h4, if_pos h4]
                  · rw [if_neg h4, if_neg h4, if_neg (by omega)]; rfl) j hj
                simpa using hl
              · exact RS.app (kids_moved x6 (by omega) (by omega) hG.size (fun b h4 _ _ h5 => hG.block b h4 (by simp; exact h5))) (kids_moved x8 (by omega) (Nat.le_refl _) hG.size (fun b h4 _ _ h5 => hG.block b h4 (by simp; exact h5)))
            have hpc : ∀ w2, w.grownBy w2 (some ga) → w2.cell? ⟨p, 0, none⟩ = some (.slice (some ⟨ga, 0, none⟩) K c) ∧ w2.frozen? ⟨p, 0, none⟩ = false := by
              intro w2 hG
              have hb : w2.heap[p]? = some (.cells #[.slice (some ⟨ga, 0, none⟩) K c] 65 (0, 0)) := by rw [hG.block p hps (by simp; omega)]; exact Hq2.out
              exact ⟨Joins.cell_of_block hb 0, Joins.unfrozen_of_block hb 0⟩
            have Hfin := Lib.hid hfin
            have Hpc := Lib.hid hpc
            clear h1 h2 h3 x1 x2 x3 x4 x5 x6 x7 x8 hbody hhk hkk hci hF1 hF2 hF3 hF4 hus hNk hlk kc hcut hone hfin hpc hptr hlt0
            go_wp2_with fail
            refine (kn.out).mono ?_
            rintro ee w' ⟨rfl, rfl⟩
            go_wp2_with fail
            refine (ki.out).mono ?_
            rintro ee w' ⟨rfl, rfl⟩
            go_wp2_with fail
            refine (kd.out).mono ?_
            rintro ee w2 ⟨rfl, hR, hG⟩
            obtain ⟨xp2, fp2⟩ := Hpc.out w2 hG
            have Hf := Lib.hid (Hfin.out w2 hR hG)
            clear hR hG
            go_wp2_with fail
            go_ret
            exact Hf.out
          · have hkz : ((k.cnt : Int) == 0) = false := beq_eq_false_iff_ne.2 (fun e => hz (H.cnt_zero (by omega)))
            rw [hkz] at ki
            have hcut : H.cut n f h = (if (H.cut n k hc).2 then d.app (H.rep n (H.cut n k hc).1 r) else d.app (.c (H.cut n k hc).1 r), false) := by
              rw [h3, H.cut_in (by omega) hlt0 hz]
              cases (H.cut n k hc).2 <;> rfl
            rw [hcut]
            obtain ⟨k', hk'⟩ : ∃ k', k' = (H.cut n k hc).1 := ⟨_, rfl⟩
            unfold CutPost at kc
            cases hb2 : (H.cut n k hc).2 with
            | false =>
              rw [hb2] at kc
              simp only [Bool.false_eq_true, if_false, ← hk'] at kc ⊢
              have hfin : ∀ w2, RSn w2 (CutS w q mq) k' q → Apart q mq w w2 → CutPost w (d.app (.c k' r), false) p m (.returned (.bool false)) w2 := by
                intro w2 hR hA
                have hsame : ∀ b, b < w.heap.size → (b < q ∨ mq ≤ b) → w2.heap[b]? = w.heap[b]? := hA.block
                refine ⟨rfl, ⟨some ⟨ga, 0, none⟩, c, us, .inl ⟨Nat.le_refl _, by omega⟩, ?_, fun _ => ⟨ga, rfl, .inl ⟨by omega, hgm⟩, Nat.lt_of_lt_of_le hgs hA.size, fun j hj => ?_⟩, ?_⟩, hA.mono (by omega) x4⟩
                · rw [World.cell?_of_block (a := ⟨p, 0, none⟩) (hsame p hps (by omega))]
                  have : (d.app (.c k' r)).cnt = K := by rw [H.app_cnt, h2]; simp only [H.cnt] at hci ⊢; omega
                  rw [this]; exact xp
                · rw [World.cell?_of_block (a := ⟨ga, j, none⟩) (hsame ga hgs hgq)]
                  have : (d.app (.c k' r)).cnt = K := by rw [H.app_cnt, h2]; simp only [H.cnt] at hci ⊢; omega
                  exact Hq3.out.cellAt j (by rw [← this, Nat.mul_one]; exact hj)
                · rw [hus]
                  have e1 := kids_moved (w' := w2) (p := p) (m := m) x6 (by omega) (by omega) hA.size (fun b h4 h5 h6 _ => hsame b h4 (by omega))
                  have e2 := kids_moved (w' := w2) (p := p) (m := m) x8 (by omega) (Nat.le_refl _) hA.size (fun b h4 h5 h6 _ => hsame b h4 (by omega))
                  exact RS.app (e1.move (Nat.le_refl _) (fun b hb => hb.1) (fun _ _ _ => rfl)) (RS.cons.2 ⟨q, _, rfl, hR.move (Nat.le_refl _) (fun b hb => by
                    rcases hb with hb | hb
                    · exact .inl ⟨by omega, by omega⟩
                    · exact .inr hb) (fun _ _ _ => rfl), e2.move (Nat.le_refl _) (fun b hb => hb.1) (fun _ _ _ => rfl)⟩)
              have Hfin := Lib.hid hfin
              clear h1 h2 h3 x1 x2 x3 x4 x5 x6 x7 x8 hbody hhk hkk hci hF1 hF2 hF3 hF4 hus hNk hlk hcut hfin hptr hlt0 hb2 hk'
              go_wp2_with fail
              refine (kn.out).mono ?_
              rintro ee w' ⟨rfl, rfl⟩
              go_wp2_with fail
              refine (ki.out).mono ?_
              rintro ee w' ⟨rfl, rfl⟩
              go_wp2_with fail
              refine (kc.out).mono ?_
              rintro ee w2 ⟨rfl, hR, hA⟩
              have Hf := Lib.hid (Hfin.out w2 hR hA)
              clear hR hA
              go_wp2_with fail
              go_ret
              exact Hf.out
            | true =>
              rw [hb2] at kc
              simp only [if_true, ← hk'] at kc ⊢
              have hptr2 : (Value.pointer (some ⟨q, 0, none⟩)).oneCell' = true := by simp [Value.oneCell']
              have hfin : ∀ w2 w4 w5 g c', RSn w2 (CutS w q mq) k' q → Apart q mq w w2 → w2.grownBy w4 none → w4.grownBy w5 (some ga) → (g = ga ∨ w4.heap.size ≤ g) → g < w5.heap.size →
                  (∀ j, j < K - 1 + n → w5.cell? ⟨g, j, none⟩ = some (repF F (Rp n [.pointer (some ⟨q, 0, none⟩)]) i n j)) → CutPost w (d.app (H.rep n k' r), false) p m (.returned (.bool false)) (w5.setCell ⟨p, 0, none⟩ (.slice (some ⟨g, 0, none⟩) (K - 1 + n) c')) := by
                intro w2 w4 w5 g c' hR hA hG4 hG5 hg1 hg2 hg3
                have hsame : ∀ b, b < w.heap.size → (b < q ∨ mq ≤ b) → b ≠ ga → w5.heap[b]? = w.heap[b]? := fun b h4 h5 h6 =>
                  (hG5.block b (Nat.lt_of_lt_of_le h4 (Nat.le_trans hA.size hG4.size)) (by simp; exact h6)).trans ((hG4.block b (Nat.lt_of_lt_of_le h4 hA.size) (by simp)).trans (hA.block b h4 h5))
                have hsz : w.heap.size ≤ w5.heap.size := Nat.le_trans hA.size (Nat.le_trans hG4.size hG5.size)
                have hw4 : w.heap.size ≤ w4.heap.size := Nat.le_trans hA.size hG4.size
                have hlr : (Rp n [Value.pointer (some ⟨q, 0, none⟩)]).length = n := by rw [Rp_len]; simp
                refine cut_store (ls := us.take i ++ (Rp n [.pointer (some ⟨q, 0, none⟩)] ++ us.drop (i + 1))) (v0 := .slice (some ⟨ga, 0, none⟩) K c) (by omega) (((hA.mono (by omega) x4).new hG4).grown hG5 (by omega) hgm) (by rw [hsame p hps (by omega) (by omega)]; exact Hq2.out) ?_ ?_ (by omega) hg2 ?_ ?_ false
                · rw [H.app_cnt, H.rep_cnt, h2]; simp only [H.cnt] at hci; omega
                · rcases hg1 with rfl | hg1
                  · exact .inl ⟨by omega, hgm⟩
                  · exact .inr (by omega)
                · intro j hj
                  rw [hg3 j hj]
                  exact list_at (hks.out.trans (Nat.mul_one K)) (fun j hj => hF4 j hj) _ (repF F (Rp n [.pointer (some ⟨q, 0, none⟩)]) i n) (K - 1 + n) i n rfl hlt hlr (fun j _ => rfl) j hj
                · have e1 := kids_moved (w' := w5) (p := p) (m := m) x6 (by omega) (by omega) hsz (fun b h4 h5 h6 h7 => hsame b h4 (by omega) h7)
                  have e2 := kids_moved (w' := w5) (p := p) (m := m) x8 (by omega) (Nat.le_refl _) hsz (fun b h4 h5 h6 h7 => hsame b h4 (by omega) h7)
                  refine RS.app e1 (RS.rep (hR.move (Nat.le_trans hG4.size hG5.size) (fun b hb => ?_) (fun b h4 h5 => ?_)) e2 n)
                  · rcases hb with hb | hb
                    · exact ⟨.inl ⟨by omega, by omega⟩, by omega⟩
                    · exact ⟨.inr hb, by omega⟩
                  · have : b ≠ ga := by
                      rcases h5 with h5 | h5 <;> omega
                    exact (hG5.block b (Nat.lt_of_lt_of_le h4 hG4.size) (by simp; exact this)).trans (hG4.block b h4 (by simp))
              have hrow : ∀ w2 w4 : World, Apart q mq w w2 → w2.grownBy w4 none → w4.rowIs ga 46 c F := by
                intro w2 w4 hA hG
                exact hF1.of_block ((hG.block ga (Nat.lt_of_lt_of_le hgs hA.size) (by simp)).trans (hA.block ga hgs hgq))
              have hpc : ∀ w2 w' : World, Apart q mq w w2 → (∀ b, b < w2.heap.size → b ≠ ga → w'.heap[b]? = w2.heap[b]?) → w'.cell? ⟨p, 0, none⟩ = some (.slice (some ⟨ga, 0, none⟩) K c) ∧ w'.frozen? ⟨p, 0, none⟩ = false := by
                intro w2 w' hA hG
                have hb : w'.heap[p]? = some (.cells #[.slice (some ⟨ga, 0, none⟩) K c] 65 (0, 0)) := by rw [hG p (Nat.lt_of_lt_of_le hps hA.size) (by omega), hA.block p hps (by omega)]; exact Hq2.out
                exact ⟨Joins.cell_of_block hb 0, Joins.unfrozen_of_block hb 0⟩
              have krp := Lib.hid (fun w2 w4 (hA : Apart q mq w w2) (hG : w2.grownBy w4 none) (hv : w4.heap[w2.heap.size + 1]? = some (.cells (Rp n [.pointer (some ⟨q, 0, none⟩)]).toArray 46 (0, 0))) =>
                replaceP_any ga K c i (w2.heap.size + 1) n F (.pointer (some ⟨q, 0, none⟩)) (Rp n [.pointer (some ⟨q, 0, none⟩)]) w4 (hrow w2 w4 hA hG) hlt hF2 hF3 (by omega) hn (by omega) rfl hptr2 hptr hv (by have := hA.size; omega))
              have Hfin := Lib.hid hfin
              have Hpc := Lib.hid hpc
              clear h1 h2 h3 x1 x2 x3 x4 x5 x6 x7 x8 hbody hhk hkk hci hF1 hF2 hF3 hF4 hus hNk hlk hcut hfin hptr hptr2 hlt0 hb2 hk' hrow hpc
              go_wp2_with fail
              refine (kn.out).mono ?_
              rintro ee w' ⟨rfl, rfl⟩
              go_wp2_with fail
              refine (ki.out).mono ?_
              rintro ee w' ⟨rfl, rfl⟩
              go_wp2_with fail
              refine (kc.out).mono ?_
              rintro ee w2 ⟨rfl, hR, hA⟩
              have HR := Lib.hid hR
              have HA := Lib.hid hA
              clear hR hA
              go_wp2_with fail
              refine (repeat_node q n hn hn9 w2).mono ?_
              rintro ee w4 ⟨rfl, hv4, hG4⟩
              have kr := Lib.hid (krp.out w2 w4 HA.out hG4 hv4)
              obtain ⟨xp4, fp4⟩ := Hpc.out w2 w4 HA.out (fun b h4 _ => hG4.block b h4 (by simp))
              have HG4 := Lib.hid hG4
              clear hG4 hv4
              go_wp2_with fail
              refine (kr.out).mono ?_
              rintro ee w5 ⟨g, c', rfl, hg2, hg3, hG5, hg1⟩
              obtain ⟨xp5, fp5⟩ := Hpc.out w2 w5 HA.out (fun b h4 h5 => (hG5.block b (Nat.lt_of_lt_of_le h4 HG4.out.size) (by simp; exact h5)).trans (HG4.out.block b h4 (by simp)))
              have Hf := Lib.hid (Hfin.out w2 w4 w5 g c' HR.out HA.out HG4.out hG5 hg1 hg2 hg3)
              clear hG5 hg1 hg2 hg3
              go_wp2_with fail
              go_ret
              exact Hf.out
      · obtain ⟨h1, h2, h3⟩ := HU.out
        have hu : u = .z := H.cnt_zero (by omega)
        subst hu
        have hdf : d = f := by rw [H.app_z] at h1; exact h1
        have hcut : H.cut n f h = (f, false) := by rw [h3, hdf]; simp only [H.cut, H.app_z]
        have Hp := Lib.hid (show CutPost w (H.cut n f h) p m (.returned (.bool false)) w from by rw [hcut]; exact ⟨rfl, Hself.out, Apart.refl p m w⟩)
        clear h1 h2 h3 hci hdf hcut
        go_wp2_with fail
        go_ret
        exact Hp.out

end Go.Proofs.Ytlbaelehmoidpaa

/- HydC -/
/- HydraCut of the program. -/
namespace Go.Proofs.Ytlbaelehmoidpaa
set_option maxRecDepth 100000
open Go.RowKit

theorem isCopies_any (n : Int) (w : World) : Calls Try.prog 26 #[.int .i64 n] w fun e w' => e = .returned (.bool (decide (1 ≤ n ∧ n ≤ 9))) ∧ w = w' := by
  by_cases h1 : 1 ≤ n
  · by_cases h2 : n ≤ 9
    · rw [decide_eq_true ⟨h1, h2⟩]
      go_enter Try.func26, Try.ntmps26
      go_wp2_with fail
      go_ret
      exact ⟨rfl, rfl⟩
    · rw [decide_eq_false (fun h => h2 h.2)]
      go_enter Try.func26, Try.ntmps26
      go_wp2_with fail
      go_ret
      exact ⟨rfl, rfl⟩
  · rw [decide_eq_false (fun h => h1 h.1)]
    go_enter Try.func26, Try.ntmps26
    go_wp2_with fail
    go_ret
    exact ⟨rfl, rfl⟩

theorem Apart.below_of {p m : Nat} {w w1 w2 : World} (h : Apart p m w1 w2) (hb : Below w.heap.size w w1) (hp : w.heap.size ≤ p) : Below w.heap.size w w2 :=
  ⟨h.os.trans hb.os, h.tape.trans hb.tape, h.output.trans hb.output, Nat.le_trans hb.size h.size, fun k hk => (h.block k (Nat.lt_of_lt_of_le hk hb.size) (by omega)).trans (hb.block k hk)⟩

set_option maxHeartbeats 4000000 in
theorem impl_HydraCut (ao : Option Addr) (len cap : Nat) (xs : List Int) (h n : Int) (w : World) (hs : Sl w ao len cap xs) :
    Calls Try.prog 7 #[.slice ao len cap, .int .i64 h, .int .i64 n] w (OrdOkPost w (H.cutRow xs h n) (H.cutOkB xs h n)) := by
  have k1 := Lib.hid (isCopies_any n w)
  have k2 := Lib.hid (impl_HydraHeads ao len cap xs w hs)
  have hno : ∀ w' : World, OrdOkPost w [] false (.returned (.tuple #[.slice none 0 0, .bool false])) w := fun _ => OrdOkPost.nil (nil_own _ _) (Below.refl _ _)
  by_cases hn : 1 ≤ n ∧ n ≤ 9
  · rw [decide_eq_true hn] at k1
    by_cases hh : h < 0
    · have hb : H.cutOkB xs h n = false := H.cut_bad (fun h' => by omega)
      rw [H.cut_no hb, hb]
      clear hs hno hb
      go_enter Try.func7, Try.ntmps7
      go_wp2_with fail
      refine (k1.out).mono ?_
      rintro ee w' ⟨rfl, rfl⟩
      go_wp2_with fail
      go_ret2
      exact OrdOkPost.nil (nil_own _ _) (Below.refl _ _)
    · obtain ⟨q, hq⟩ : ∃ q, q = H.headsRow xs := ⟨_, rfl⟩
      rw [← hq] at k2
      by_cases hhq : h < q
      · obtain ⟨hN, rfl⟩ := Int.eq_ofNat_of_zero_le (show 0 ≤ h by omega)
        obtain ⟨nn, rfl⟩ := Int.eq_ofNat_of_zero_le (show 0 ≤ n by omega)
        have hv : H.hvB xs = true := by
          cases hv : H.hvB xs with
          | true => rfl
          | false =>
            rw [H.headsRow, if_neg (by rw [hv]; simp)] at hq
            omega
        obtain ⟨f, he, h60, hof⟩ := H.hv_of hv
        have hhb : H.headsRow xs ≤ 60 := by
          rw [H.headsRow, if_pos hv]
          have h3 := H.noughts_le (xs.drop 1)
          rw [List.length_drop] at h3
          have h4 : xs.length ≤ 60 := by rw [he]; exact h60
          omega
        subst he
        have hfl := H.enc_len f
        have hob : H.cutOkB f.enc hN nn = decide ((H.cut nn f hN).1.enc.length ≤ 60) := by
          rw [H.cutOkB, hv, ← hq, hof, decide_eq_true (show 1 ≤ ((nn : Nat) : Int) ∧ ((nn : Nat) : Int) ≤ 9 ∧ 0 ≤ ((hN : Nat) : Int) ∧ ((hN : Nat) : Int) < q from ⟨by omega, by omega, by omega, hhq⟩)]
          rfl
        have hrow : H.cutRow f.enc hN nn = if decide ((H.cut nn f hN).1.enc.length ≤ 60) = true then (H.cut nn f hN).1.enc else [] := by
          rw [H.cutRow, hob, hof]; rfl
        rw [hob, hrow]
        have hcl := (H.cut_len nn (by omega) f hN).1
        obtain ⟨R, hR⟩ : ∃ R, R = (H.cut nn f hN).1 := ⟨_, rfl⟩
        have hRl : R.enc.length ≤ 10000 := by
          rw [hR, H.enc_len]
          have : nn * f.body.length ≤ 9 * f.body.length := Nat.mul_le_mul_right _ (by omega)
          omega
        have k3 := Lib.hid (treeOf_any ao len cap f w hs (by rw [← hs.1]; exact h60))
        have K4 := Lib.hid (fun w1 (hn : Nd w1 f w.heap.size w1.heap.size) => node_cut nn (by omega) (by omega) (f.body.length + 1) f w.heap.size w1.heap.size hN w1 (by omega) (by omega) (by omega) hn)
        have K5 := Lib.hid (fun w2 (hn : RNd w2 R w.heap.size) => node_row (R.body.length + 1) R w.heap.size w2 (by omega) hRl hn)
        unfold CutPost at K4
        unfold RowPost at K5
        rw [← hR] at K4 ⊢
        have hlt' : ¬ ((q : Int) ≤ (hN : Int)) := by omega
        have Hq := Lib.hid hq
        clear hs hv h60 hof hq hob hrow hR hfl hcl hhb hno
        have hfin : ∀ a5 c5 w1 w2 w5, Below w.heap.size w w1 → Apart w.heap.size w1.heap.size w1 w2 → w5.ownsRow w2.heap.size 3 1 (.slice a5 R.enc.length c5) R.enc.length (ints R.enc) → Below w2.heap.size w2 w5 →
            OrdOkPost w R.enc true (.returned (.tuple #[.slice a5 R.enc.length c5, .bool true])) w5 ∧ Below w.heap.size w w5 := by
          intro a5 c5 w1 w2 w5 hb hA ho hb5
          have hb2 := hA.below_of hb (Nat.le_refl _)
          have hb6 := hb2.trans (hb5.mono hb2.size)
          exact ⟨⟨a5, c5, rfl, Joins.ownsRow_le ho hb2.size, hb6⟩, hb6⟩
        have Hfin := Lib.hid hfin
        clear hfin
        by_cases hl6 : R.enc.length ≤ 60
        · rw [decide_eq_true hl6, if_pos rfl]
          obtain ⟨L, hL⟩ : ∃ L, L = R.enc.length := ⟨_, rfl⟩
          rw [← hL] at K5 hl6 hRl
          have HL := Lib.hid hL
          clear hL
          go_enter Try.func7, Try.ntmps7
          go_wp2_with fail
          refine (k1.out).mono ?_
          rintro ee w' ⟨rfl, rfl⟩
          go_wp2_with fail
          refine (k2.out).mono ?_
          rintro ee w' ⟨rfl, rfl⟩
          go_wp2_with fail
          refine (k3.out).mono ?_
          rintro ee w1 ⟨rfl, hnd, hb⟩
          have k4 := Lib.hid (K4.out w1 hnd)
          have Hb := Lib.hid hb
          clear hnd hb
          go_wp2_with fail
          refine (k4.out).mono ?_
          rintro ee w2 ⟨rfl, hrs, hA⟩
          have k5 := Lib.hid (K5.out w2 hrs.rnd)
          have HA := Lib.hid hA
          clear hrs hA
          go_wp2_with fail
          refine (k5.out).mono ?_
          rintro ee w5 ⟨a5, c5, rfl, ho5, hb5⟩
          have Hf := Lib.hid (Hfin.out a5 c5 w1 w2 w5 Hb.out HA.out (by rw [← HL.out]; exact ho5) hb5).1
          clear ho5 hb5
          rw [← HL.out] at Hf
          go_wp2_with fail
          go_ret2
          exact Hf.out
        · rw [decide_eq_false hl6, if_neg (by simp)]
          obtain ⟨L, hL⟩ : ∃ L, L = R.enc.length := ⟨_, rfl⟩
          rw [← hL] at K5 hl6 hRl
          have HL := Lib.hid hL
          clear hL
          go_enter Try.func7, Try.ntmps7
          go_wp2_with fail
          refine (k1.out).mono ?_
          rintro ee w' ⟨rfl, rfl⟩
          go_wp2_with fail
          refine (k2.out).mono ?_
          rintro ee w' ⟨rfl, rfl⟩
          go_wp2_with fail
          refine (k3.out).mono ?_
          rintro ee w1 ⟨rfl, hnd, hb⟩
          have k4 := Lib.hid (K4.out w1 hnd)
          have Hb := Lib.hid hb
          clear hnd hb
          go_wp2_with fail
          refine (k4.out).mono ?_
          rintro ee w2 ⟨rfl, hrs, hA⟩
          have k5 := Lib.hid (K5.out w2 hrs.rnd)
          have HA := Lib.hid hA
          clear hrs hA
          go_wp2_with fail
          refine (k5.out).mono ?_
          rintro ee w5 ⟨a5, c5, rfl, ho5, hb5⟩
          have Hf := Lib.hid (Hfin.out a5 c5 w1 w2 w5 Hb.out HA.out (by rw [← HL.out]; exact ho5) hb5).2
          clear ho5 hb5
          go_wp2_with fail
          go_ret2
          exact OrdOkPost.nil (nil_own _ _) Hf.out
      · have hb : H.cutOkB xs h n = false := H.cut_bad (fun h' => by omega)
        rw [H.cut_no hb, hb]
        clear hs hno hb hq
        go_enter Try.func7, Try.ntmps7
        go_wp2_with fail
        refine (k1.out).mono ?_
        rintro ee w' ⟨rfl, rfl⟩
        go_wp2_with fail
        refine (k2.out).mono ?_
        rintro ee w' ⟨rfl, rfl⟩
        go_wp2_with fail
        go_ret2
        exact OrdOkPost.nil (nil_own _ _) (Below.refl _ _)
  · have hb : H.cutOkB xs h n = false := H.cut_bad (fun h' => hn ⟨h'.2.1, h'.2.2.1⟩)
    rw [H.cut_no hb, hb]
    rw [decide_eq_false hn] at k1
    clear hs hno hb
    go_enter Try.func7, Try.ntmps7
    go_wp2_with fail
    refine (k1.out).mono ?_
    rintro ee w' ⟨rfl, rfl⟩
    go_wp2_with fail
    go_ret2
    exact OrdOkPost.nil (nil_own _ _) (Below.refl _ _)

end Go.Proofs.Ytlbaelehmoidpaa

/- HydF -/
/- What the drawn laws of HydraValid and HydraHeads say, on rows. -/
namespace Go.Proofs.Ytlbaelehmoidpaa
set_option maxRecDepth 100000
namespace H

theorem hv_nil : hvB [] = false := hvB_false.2 (by rintro ⟨_, f, h⟩; simp [enc] at h)
theorem hv_snoc {xs : List Int} (x : Int) (h : hvB xs = true) : hvB (xs ++ [x]) = false := hvB_false.2 (by
  rintro ⟨_, g, hg⟩
  obtain ⟨f, rfl, _, _⟩ := hv_of h
  have := (enc_inj (s := f) (t := g) (r₁ := [x]) (r₂ := []) (by simpa using hg)).2
  cases this)
theorem hv_branch {xs : List Int} (h : hvB xs = true) (hl : xs.length ≤ 59) : hvB (1 :: xs) = true := by
  obtain ⟨f, rfl, _, _⟩ := hv_of h
  have e : (1 : Int) :: f.enc = (c f z).enc := by simp [enc, body, cnt]
  rw [e]
  exact hv_mk (by rw [← e]; simp; omega)
theorem noughts_enc (f : H) : 1 ≤ noughts f.enc := by
  induction f with
  | z => simp [enc, cnt, body, noughts]
  | c k r ihk _ =>
    have e : (c k r).enc = ((c k r).cnt : Int) :: (k.enc ++ r.body) := by rw [← body_c]; rfl
    rw [e, noughts, noughts_app]
    omega
theorem noughts_body {f : H} (h : f ≠ z) : 1 ≤ noughts f.body := by
  cases f with
  | z => exact absurd rfl h
  | c k r => rw [body_c, noughts_app]; have := noughts_enc k; omega
/-- What the law of HydraHeads says. -/
theorem heads_facts {xs : List Int} (h : hvB xs = true) : (xs.length = 1 ∧ headsRow xs = 0) ∨ (2 ≤ xs.length ∧ 1 ≤ headsRow xs ∧ headsRow xs < (xs.length : Int)) := by
  obtain ⟨f, rfl, h60, _⟩ := hv_of h
  rw [headsRow, if_pos h]
  have e : f.enc.drop 1 = f.body := rfl
  rw [e]
  cases f with
  | z => exact .inl ⟨rfl, rfl⟩
  | c k r =>
    right
    have h1 := noughts_body (f := c k r) (by intro h; cases h)
    have h2 := noughts_le (c k r).body
    have h3 := enc_len (c k r)
    omega
theorem heads_bad {xs : List Int} (h : hvB xs = false) : headsRow xs = -1 := by rw [headsRow, if_neg (by rw [h]; simp)]

end H
end Go.Proofs.Ytlbaelehmoidpaa

/- HydU -/
/- Rows of cuts: HydraRun and HydraFight, on rows. -/
namespace Go.Proofs.Ytlbaelehmoidpaa
set_option maxRecDepth 100000
open Go.RowKit
namespace H

/-- After these cuts; nothing if one of them cannot be. -/
noncomputable def runR (n : Int) : List Int → List Int → Option (List Int)
  | xs, [] => some xs
  | xs, h :: hs => if cutOkB xs h n = true then runR n (cutRow xs h n) hs else none
noncomputable def runOkB (xs hs : List Int) (n : Int) : Bool := hvB xs && decide (1 ≤ n ∧ n ≤ 9) && decide (hs.length ≤ 400) && (runR n xs hs).isSome
noncomputable def runRow (xs hs : List Int) (n : Int) : List Int := if runOkB xs hs n = true then (runR n xs hs).getD [] else []

theorem cut_hv {xs : List Int} {h n : Int} (hq : cutOkB xs h n = true) : hvB (cutRow xs h n) = true := by
  rw [cutRow, if_pos hq]
  rw [cutOkB, Bool.and_eq_true] at hq
  exact hv_mk (of_decide_eq_true hq.2)
theorem hv_len {xs : List Int} (h : hvB xs = true) : 1 ≤ xs.length ∧ xs.length ≤ 60 := by
  obtain ⟨f, rfl, h60, _⟩ := hv_of h
  exact ⟨by rw [enc_len]; omega, h60⟩
theorem run_hv {n : Int} : ∀ {hs xs ys : List Int}, hvB xs = true → runR n xs hs = some ys → hvB ys = true := by
  intro hs
  induction hs with
  | nil => intro xs ys h he; cases he; exact h
  | cons a r ih =>
    intro xs ys _ he
    rw [runR] at he
    by_cases hq : cutOkB xs a n = true
    · rw [if_pos hq] at he
      exact ih (cut_hv hq) he
    · rw [if_neg hq] at he; cases he
theorem run_app {n : Int} : ∀ (hs gs xs : List Int), runR n xs (hs ++ gs) = (runR n xs hs).bind (fun ys => runR n ys gs) := by
  intro hs
  induction hs with
  | nil => intro gs xs; rfl
  | cons a r ih =>
    intro gs xs
    rw [List.cons_append, runR, runR]
    by_cases hq : cutOkB xs a n = true
    · rw [if_pos hq, if_pos hq, ih]
    · rw [if_neg hq, if_neg hq]; rfl
theorem run_bad {xs hs : List Int} {n : Int} (h : ¬ (hvB xs = true ∧ (1 ≤ n ∧ n ≤ 9) ∧ hs.length ≤ 400)) : runOkB xs hs n = false := by
  rw [runOkB]
  by_cases h1 : hvB xs = true
  · by_cases h2 : 1 ≤ n ∧ n ≤ 9
    · rw [decide_eq_false (fun h3 => h ⟨h1, h2, h3⟩)]; simp
    · rw [decide_eq_false h2]; simp
  · have : hvB xs = false := by cases hb : hvB xs with | true => exact absurd hb h1 | false => rfl
    rw [this]; rfl
theorem run_no {xs hs : List Int} {n : Int} (h : runOkB xs hs n = false) : runRow xs hs n = [] := by rw [runRow, if_neg (by rw [h]; simp)]
theorem run_ok {xs hs : List Int} {n : Int} (h1 : hvB xs = true) (h2 : 1 ≤ n ∧ n ≤ 9) (h3 : hs.length ≤ 400) : runOkB xs hs n = (runR n xs hs).isSome := by
  rw [runOkB, h1, decide_eq_true h2, decide_eq_true h3]; rfl
theorem run_len (xs hs : List Int) (n : Int) : (runRow xs hs n).length ≤ 1000 := by
  rw [runRow]
  split
  · rename_i h
    rw [runOkB, Bool.and_eq_true, Bool.and_eq_true, Bool.and_eq_true] at h
    obtain ⟨ys, hy⟩ := Option.isSome_iff_exists.1 h.2
    rw [hy]
    have := (hv_len (run_hv h.1.1.1 hy)).2
    simp only [Option.getD_some]; omega
  · simp

/-- How many cuts kill it; c are made already. -/
noncomputable def fightI (n : Int) : Nat → Nat → List Int → Int
  | 0, _, _ => -1
  | k + 1, q, xs => if headsRow xs = 0 then q else if cutOkB xs (headsRow xs - 1) n = true then fightI n k (q + 1) (cutRow xs (headsRow xs - 1) n) else -1
noncomputable def fightRow (xs : List Int) (n : Int) : Int := if hvB xs = true ∧ 1 ≤ n ∧ n ≤ 9 then fightI n 401 0 xs else -1
theorem fight_bnd (n : Int) : ∀ k c xs, -1 ≤ fightI n k c xs ∧ fightI n k c xs ≤ c + k := by
  intro k
  induction k with
  | zero => intro c xs; simp only [fightI]; omega
  | succ k ih =>
    intro c xs
    rw [fightI]
    split
    · omega
    · split
      · have := ih (c + 1) (cutRow xs (headsRow xs - 1) n)
        omega
      · omega
theorem fightRow_bnd (xs : List Int) (n : Int) : -1 ≤ fightRow xs n ∧ fightRow xs n ≤ 401 := by
  rw [fightRow]
  split
  · have := fight_bnd n 401 0 xs; omega
  · omega
theorem heads_one {xs : List Int} (h : hvB xs = true) : headsRow xs = 0 ↔ xs.length = 1 := by
  have := heads_facts h
  omega
end H
end Go.Proofs.Ytlbaelehmoidpaa

/- HydL -/
/- The model's l5Cut and HydraCut. -/
namespace Go.Proofs.Ytlbaelehmoidpaa
set_option maxRecDepth 100000
open Go.RowKit

/-- Trees, each in old memory or in a row of numbers. -/
def HX (w : World) (B : Nat) : H → List Value → Prop
  | .z, es => es = []
  | .c k r, es => ∃ b off cap es', es = .slice (some ⟨b, off, none⟩) k.enc.length cap :: es' ∧ At w b off k.enc ∧ k.enc.length ≤ cap ∧ cap ≤ maxLen ∧ (b < B ∨ ∃ cs fr, w.heap[b]? = some (.cells cs 3 fr)) ∧ HX w B r es'

theorem HX.hc {w : World} {B : Nat} {t : H} {es : List Value} (h : HX w B t es) : HC w t es := by
  induction t generalizing es with
  | z => exact h
  | c k r _ ih =>
    obtain ⟨b, off, cap, es', rfl, h1, h2, h3, _, h5⟩ := h
    exact ⟨b, off, cap, es', rfl, h1, h2, h3, ih h5⟩
theorem HX.snoc {w : World} {B : Nat} {t : H} {es : List Value} {e : H} {b off cap : Nat} (h : HX w B t es) (ha : At w b off e.enc) (hc : e.enc.length ≤ cap) (hm : cap ≤ maxLen) (ht : b < B ∨ ∃ cs fr, w.heap[b]? = some (.cells cs 3 fr)) :
    HX w B (t.app (.c e .z)) (es ++ [.slice (some ⟨b, off, none⟩) e.enc.length cap]) := by
  induction t generalizing es with
  | z => simp only [HX] at h; subst h; exact ⟨b, off, cap, [], rfl, ha, hc, hm, ht, rfl⟩
  | c f r _ ih =>
    obtain ⟨b', off', cap', es', rfl, h1, h2, h3, h4, h5⟩ := h
    exact ⟨b', off', cap', _, rfl, h1, h2, h3, h4, ih h5⟩
/-- They stay behind whatever changes a row of rows that is new. -/
theorem HX.kept {w w' : World} {B : Nat} {row : Option Nat} {t : H} {es : List Value} (h : HX w B t es) (hg : w.grownBy w' row) (hr : ∀ k, row = some k → B ≤ k ∧ ∃ cs fr, w.heap[k]? = some (.cells cs 23 fr)) : HX w' B t es := by
  induction t generalizing es with
  | z => exact h
  | c f r _ ih =>
    obtain ⟨b, off, cap, es', rfl, h1, h2, h3, h4, h5⟩ := h
    have hne : row ≠ some b := by
      intro he
      obtain ⟨q1, cs, fr, q2⟩ := hr b he
      rcases h4 with h4 | ⟨cs', fr', h4⟩
      · omega
      · rw [q2] at h4; simp at h4
    refine ⟨b, off, cap, es', rfl, ?_, h2, h3, ?_, ih h5⟩
    · intro j hj
      exact hg.cell (a := ⟨b, off + j, none⟩) (h1 j hj) (fun e => hne e.symm)
    · rcases h4 with h4 | ⟨cs', fr', h4⟩
      · exact .inl h4
      · exact .inr ⟨cs', fr', by rw [hg.block b (Array.getElem?_eq_some_iff.1 h4).1 (fun e => hne e.symm)]; exact h4⟩
theorem own_tagX {w : World} {B e n size : Nat} {v : Value} {xs : List Value} (h : w.ownsRow B e size v n xs) : ∀ k, v.ownBlock = some k → B ≤ k ∧ ∃ cs fr, w.heap[k]? = some (.cells cs e fr) := by
  intro k hk
  rcases h.2 with ⟨rfl, _⟩ | ⟨g, cap, cur, rfl, hb, hg, _⟩
  · simp [Value.ownBlock] at hk
  · simp [Value.ownBlock] at hk
    subst hk
    exact ⟨hb, _, _, hg⟩

theorem hx_row {w : World} {B gx cx : Nat} {t k : H} {es : List Value} (h : HX w B t es) (ho : w.ownsRow B 3 1 (.slice (some ⟨gx, 0, none⟩) k.enc.length cx) k.enc.length (ints k.enc)) : HX w B (t.app (.c k .z)) (es ++ [.slice (some ⟨gx, 0, none⟩) k.enc.length cx]) := by
  obtain ⟨q1, q2, q3, q4⟩ := Sl.of_own ho
  obtain ⟨b, o, h1, h2⟩ := q4 (by rw [H.enc_len]; omega)
  cases h1
  exact h.snoc h2 q2 q3 (.inr (own_tagX ho gx rfl).2)

def CutRel (w : World) (f : H) (h0 : Int) (n : Nat) (v1 v9 v10 v11 : Value) (wr : World) : Prop :=
  ∃ (i m : Nat) (h : Int) (ow : Bool) (D d u : H) (es : List Value) (a9 : Option Addr) (c9 : Nat), v11 = .int .i64 i ∧ v1 = .int .i64 h ∧ v10 = .bool ow ∧ v9 = .slice a9 m c9 ∧ d.app u = f ∧ d.cnt = i ∧ m = D.cnt ∧ m ≤ 9 * i ∧ -(2000 + 60 * (i : Int)) ≤ h ∧ h ≤ 1000 ∧
    wr.ownsRow w.heap.size 23 1 v9 m es ∧ HX wr w.heap.size D es ∧ Below w.heap.size w wr ∧ H.cut n f h0 = (D.app (H.cut n u h).1, ow || (H.cut n u h).2)

/-- The copies of a branch. -/
def CopRel (w : World) (D k : H) (n m0 gx Lx cx : Nat) (near : Bool) (v9 v15 : Value) (wr : World) : Prop :=
  ∃ (j m : Nat) (es : List Value) (a9 : Option Addr) (c9 : Nat), 1 ≤ j ∧ j ≤ n ∧ (near = false → j = 1) ∧ v15 = .int .i64 j ∧ v9 = .slice a9 m c9 ∧ m = m0 + j ∧ wr.ownsRow w.heap.size 23 1 v9 m es ∧ HX wr w.heap.size (D.app (H.rep j k .z)) es ∧
    wr.ownsRow w.heap.size 3 1 (.slice (some ⟨gx, 0, none⟩) Lx cx) Lx (ints k.enc) ∧ Below w.heap.size w wr

set_option maxHeartbeats 4000000 in
theorem l5Cut_any (N : Nat) : ∀ (b off len cap n : Nat) (f : H) (h0 : Int) (w : World), f.body.length < N → f.enc.length = len → len ≤ 60 → len ≤ cap → cap ≤ maxLen → At w b off f.enc → 1 ≤ n → n ≤ 9 → -1000 ≤ h0 → h0 ≤ 1000 →
    Calls Try.prog 32 #[.slice (some ⟨b, off, none⟩) len cap, .int .i64 h0, .int .i64 n] w (OrdOkPost w (H.cut n f h0).1.enc (H.cut n f h0).2) := by
  induction N with
  | zero => intro b off len cap n f h0 w h; omega
  | succ N ih =>
    intro b off len cap n f h0 w hN hl hb hlc hcm hat hn1 hn9 hh1 hh2
    obtain ⟨j0, hj, hy0, hy1, hy2⟩ := info_parts info_ints
    have k1 := Lib.hid (l5Branches_any b off len cap f w hl hb hlc hcm hat)
    have hel := H.enc_len f
    have hct := H.cnt_le f
    obtain ⟨K, hK⟩ : ∃ K, K = f.cnt := ⟨_, rfl⟩
    have hK60 : K ≤ 60 := by omega
    have hfb : f.body.length ≤ 60 := by omega
    rw [← hK] at k1
    obtain ⟨rf, hrf⟩ : ∃ rf, rf = (H.cut n f h0).1.enc := ⟨_, rfl⟩
    obtain ⟨ro, hro⟩ : ∃ ro, ro = (H.cut n f h0).2 := ⟨_, rfl⟩
    rw [← hrf, ← hro]
    have hcl := (H.cut_len n hn1 f h0).1
    have hcl2 : (H.cut n f h0).1.enc.length ≤ 1000 := by
      have h3 := Nat.mul_le_mul hn9 hfb
      rw [H.enc_len]
      omega
    have Hcl := Lib.hid hcl2
    have Hrf := Lib.hid hrf
    have Hro := Lib.hid hro
    have IH := Lib.hid ih
    have HN := Lib.hid hN
    have HK := Lib.hid hK
    have Hfb := Lib.hid hfb
    clear ih hN hK hfb hl hel hct hrf hro hat hcl hcl2
    go_enter Try.func32, Try.ntmps32
    go_wp2_with fail
    refine (k1.out).mono ?_
    rintro ee w1 ⟨g, c, es1, rfl, ho1, hE, hb1⟩
    have Ho1 := Lib.hid ho1
    have HE := Lib.hid (hE.below hb1)
    have Hb1 := Lib.hid hb1
    have hgl : g < w1.heap.size := (ho1.lt g rfl).2
    have hst : CutRel w1 f h0 n (.int .i64 h0) (.slice (some ⟨w1.heap.size, 0, none⟩) 0 0) (.bool false) (.int .i64 ((0 : Nat) : Int)) (w1.alloc (.cells #[] 23)) :=
      ⟨0, 0, h0, false, .z, .z, f, [], _, 0, rfl, rfl, rfl, rfl, rfl, rfl, rfl, Nat.zero_le _, by omega, hh2, World.ownsRow_lit w1 #[] 0 (Nat.le_refl _) (by simp [maxLen]) rfl, rfl, (Below.refl _ _).alloc (Nat.le_refl _) _, by simp [H.app]⟩
    have Hst := Lib.hid hst
    clear ho1 hE hb1 hst hh1 hh2
    go_wp2_with fail
    go_loopw [1, 9, 10, 11] (fun v1 v9 v10 v11 wr => CutRel w1 f h0 n v1 v9 v10 v11 wr) (fun _ _ _ v11 _ => K - (intOf v11).toNat)
    case atStart => exact Hst.out
    case round =>
      obtain ⟨i, m, h, ow, D, d, u, es, a9, c9, rfl, rfl, rfl, rfl, h1, h2, h3, hm9, hh1, hh2, ho, hX, hbr, hcut⟩ := hrel
      have hci : K = i + u.cnt := by rw [HK.out, ← h1, H.app_cnt, h2]
      have Ho := Lib.hid ho
      have HXr := Lib.hid hX
      have Hbr := Lib.hid hbr
      have hsr := hbr.size
      by_cases hlt : i < K
      · obtain ⟨k, r, rfl⟩ : ∃ k r, u = .c k r := H.cnt_pos (by omega)
        obtain ⟨bk, ok, ck, x1, x2, x3, x4⟩ := HE.out.pick h1 h2
        have hbody : d.body.length + (k.body.length + 1 + r.body.length) = f.body.length := by rw [← h1, H.app_body, List.length_append, H.body_c, List.length_append, H.enc_len]
        have hel := H.enc_len k
        have hkl : k.enc.length ≤ 60 := by have := Hfb.out; omega
        have hkb : bk < w1.heap.size := x2.lt (H.enc_ne k)
        have y1 : wr.cell? ⟨g, i, none⟩ = some (.slice (some ⟨bk, ok, none⟩) k.enc.length ck) := (hbr.cell (p := ⟨g, i, none⟩) hgl).trans ((Ho1.out.cellAt i (by omega)).trans x1)
        have hatr : At wr bk ok k.enc := x2.below hbr hkb
        have kh := Lib.hid (l5Heads_any (some ⟨bk, ok, none⟩) k.enc.length ck k.enc wr ⟨rfl, x3, x4, fun _ => ⟨bk, ok, rfl, hatr⟩⟩ (by omega))
        have hp1 := H.heads_pos k
        have hp2 := H.heads_le k
        have hkz : k.enc.length = 1 ↔ k = .z := by
          constructor
          · intro h9; cases k with
            | z => rfl
            | c a b => rw [H.enc_len, H.body_c, List.length_append, H.enc_len] at h9; omega
          · intro h9; rw [h9]; rfl
        have hpast := fun hq => H.cut_past (n := n) (k := k) (r := r) (h := h) hq
        have hin := fun a b hq => H.cut_in (n := n) (k := k) (r := r) (h := h) a b hq
        have hhd := fun (hq : k = .z) a b => H.cut_head (n := n) (r := r) (h := h) a b
        obtain ⟨q, hq⟩ : ∃ q : Nat, q = H.noughts k.enc := ⟨_, rfl⟩
        have hqh : H.heads k = (q : Int) := by rw [hq]; rfl
        rw [← hq] at kh
        rw [hqh] at hp1 hp2 hpast hin
        obtain ⟨L, hL⟩ : ∃ L, L = k.enc.length := ⟨_, rfl⟩
        rw [← hL] at kh hkl hp2 y1 x3 hkz
        have HLk := Lib.hid hL
        have Hxa := Lib.hid x2
        have Hx1 := Lib.hid h1
        have Hx2 := Lib.hid h2
        have Hx3 := Lib.hid h3
        have Hcut := Lib.hid hcut
        have Hhd := Lib.hid hhd
        have Hqh := Lib.hid hqh
        have Hkz := Lib.hid hkz
        have hkr : k.body.length ≤ 60 := by omega
        have HNk := Lib.hid (show k.body.length < N by have := HN.out; omega)
        clear h1 h2 h3 hci hbody hel x1 x2 hL hq hqh hcut hhd hkz ho hX hbr hatr
        by_cases hA : h < 0 ∨ (q : Int) ≤ h
        · have hcp := hpast hA
          have Hcp := Lib.hid hcp
          have HfinA := Lib.hid (fun (a9' : Option Addr) (c9' : Nat) (w3 : World) (ho3 : w3.ownsRow w1.heap.size 23 1 (.slice a9' (m + 1) c9') (m + 1) (es ++ [.slice (some ⟨bk, ok, none⟩) L ck])) (hg3 : (wr.alloc (.cells #[.slice (some ⟨bk, ok, none⟩) L ck] 23)).grownBy w3 (Value.slice a9 m c9).ownBlock) =>
            (show CutRel w1 f h0 n (.int .i64 (h - (q : Int))) (.slice a9' (m + 1) c9') (.bool ow) (.int .i64 ((i + 1 : Nat) : Int)) w3 from by
              have hga : wr.grownBy (wr.alloc (.cells #[.slice (some ⟨bk, ok, none⟩) L ck] 23)) none := World.grownBy_alloc wr _ none
              have hX3 := (HXr.out.kept hga (fun k hk => by cases hk)).kept hg3 (fun k hk => own_tagX (Ho.out.alloc _) k hk)
              have hb3 := (Hbr.out.alloc (by omega) _).grown hg3 (by simp; omega) (fun k hk => (Ho.out.lt k hk).1)
              have hat3 : At w3 bk ok k.enc := Hxa.out.below hb3 hkb
              have hs3 := hX3.snoc (e := k) (cap := ck) hat3 (by rw [← HLk.out]; exact x3) x4 (.inl hkb)
              rw [← HLk.out] at hs3
              refine ⟨i + 1, m + 1, h - (q : Int), ow, D.app (.c k .z), d.app (.c k .z), r, _, a9', c9', rfl, rfl, rfl, rfl, by rw [H.app_assoc]; exact Hx1.out, by rw [H.app_cnt, Hx2.out]; rfl, by rw [H.app_cnt, ← Hx3.out]; rfl, by omega, by omega, by omega, ho3, hs3, hb3, ?_⟩
              rw [Hcut.out, Hcp.out, H.app_assoc]
              rfl))
          have hb0 : (h < 0) ∨ ¬ (h < 0) ∧ (q : Int) ≤ h := by omega
          clear hpast hin hcp
          rcases hb0 with hb0 | ⟨hb0, hb00⟩
          all_goals
            go_wp2_with fail
            refine (kh.out).mono ?_
            rintro ee w' ⟨rfl, rfl⟩
            go_wp2_with (first
              | (at_builtin; refine wpList_append_own _ rfl (.tmp 37) (.tmp 42) 71 rfl w1.heap.size 23 j0 (.slice none 0 0) 1 24 Try.underlying71 hj hy0 hy1 hy2 rfl (by decide) _ _ _ rfl (Ho.out.alloc _) ⟨wr.heap.size, 0, none⟩ 1 1 [.slice (some ⟨bk, ok, none⟩) L ck] rfl rfl (cell_one_new _ _ _) (slice_oneCell _ _ _) (by unfold maxLen; omega) (by omega) (by simp; omega) ?_; intro v9' w3 ho3 hg3 _))
            obtain ⟨a9', c9', rfl, _⟩ := own_form ho3
            have Hfin := Lib.hid (HfinA.out a9' c9' w3 ho3 hg3)
            clear ho3 hg3
            go_wp2_with fail
            go_roundw
            case rel => exact Hfin.out
            case measure => simp [intOf]; omega
        · have hh0 : ¬ h < 0 := by omega
          have hh00 : ¬ (q : Int) ≤ h := by omega
          by_cases hkz0 : k = .z
          · have hL1 : L = 1 := Hkz.out.2 hkz0
            subst hL1
            have hfin : CutRel w1 f h0 n (.int .i64 (-1)) (.slice a9 m c9) (.bool true) (.int .i64 ((i + 1 : Nat) : Int)) wr := by
              have e1 := Hcut.out
              rw [hkz0, Hhd.out hkz0 (by omega) (by have := Hqh.out; rw [hkz0] at this; omega)] at e1
              refine ⟨i + 1, m, -1, true, D, d.app (.c k .z), r, es, a9, c9, rfl, rfl, rfl, rfl, by rw [H.app_assoc]; exact Hx1.out, by rw [H.app_cnt, Hx2.out]; rfl, Hx3.out, by omega, by omega, by omega, Ho.out, HXr.out, Hbr.out, ?_⟩
              rw [e1, H.cut_neg n r (-1) (by omega)]
              simp
            have Hfin := Lib.hid hfin
            clear hpast hin hfin hkz0
            go_wp2_with fail
            refine (kh.out).mono ?_
            rintro ee w' ⟨rfl, rfl⟩
            go_wp2_with fail
            go_roundw
            case rel => exact Hfin.out
            case measure => simp [intOf]; omega
          · have hcp := hin (by omega) (by omega) hkz0
            have hL1 : ¬ L = 1 := fun e => hkz0 (Hkz.out.1 e)
            have hLi : ((L : Int) == 1) = false := beq_eq_false_iff_ne.2 (by omega)
            have hatr := Hxa.out.below Hbr.out hkb
            have kc := Lib.hid (IH.out bk ok L ck n k h wr HNk.out HLk.out.symm hkl x3 x4 hatr hn1 hn9 (by omega) hh2)
            obtain ⟨k', hk'⟩ : ∃ k', k' = (H.cut n k h).1 := ⟨_, rfl⟩
            have hxl : (H.cut n k h).1.enc.length ≤ 1000 := by
              have h3 := (H.cut_len n hn1 k h).1
              have h4 := Nat.mul_le_mul hn9 hkr
              rw [H.enc_len]
              omega
            unfold OrdOkPost at kc
            rw [← hk'] at kc hcp hxl
            have hxp : 1 ≤ k'.enc.length := by rw [H.enc_len]; omega
            obtain ⟨Lx, hLx⟩ : ∃ Lx, Lx = k'.enc.length := ⟨_, rfl⟩
            rw [← hLx] at kc hxl hxp
            have HLx := Lib.hid hLx
            cases hnear : (H.cut n k h).2 with
            | true =>
              rw [hnear] at kc hcp
              have Hcp := Lib.hid hcp
              clear hpast hin hcp hkz0 hatr hk' hLx hnear
              go_wp2_with fail
              refine (kh.out).mono ?_
              rintro ee w' ⟨rfl, rfl⟩
              go_wp2_with fail
              refine (kc.out).mono ?_
              rintro ee w2 ⟨a8, c8, rfl, ho8, hb8⟩
              obtain ⟨g8, c8', hv8⟩ := Joins.ownsRow_form ho8 (by omega)
              simp only [Value.slice.injEq, true_and] at hv8
              obtain ⟨rfl, rfl⟩ := hv8
              have Ho2 := Lib.hid (ownsRow_below' Ho.out hb8)
              have HX2 := Lib.hid (HXr.out.kept (row := none) ⟨hb8.os, hb8.tape, hb8.output, hb8.size, fun k hk _ => hb8.block k hk⟩ (fun k hk => by cases hk))
              have Hb2 := Lib.hid (Hbr.out.trans (hb8.mono Hbr.out.size))
              have hs2 := Hb2.out.size
              have H8 := Lib.hid (Joins.ownsRow_le ho8 hsr)
              clear ho8 hb8
              go_wp2_with (first
                | (at_builtin; refine wpList_append_own _ rfl (.tmp 63) (.tmp 65) 71 rfl w1.heap.size 23 j0 (.slice none 0 0) 1 24 Try.underlying71 hj hy0 hy1 hy2 rfl (by decide) _ _ _ rfl (Ho2.out.alloc _) ⟨w2.heap.size, 0, none⟩ 1 1 [.slice (some ⟨g8, 0, none⟩) Lx c8] rfl rfl (cell_one_new _ _ _) (slice_oneCell _ _ _) (by unfold maxLen; omega) (by omega) (by simp; omega) ?_; intro v9' w3 ho3 hg3 _))
              obtain ⟨a9', c9', rfl, _⟩ := own_form ho3
              have hst : CopRel w1 D k' n m g8 Lx c8 true (.slice a9' (m + 1) c9') (.int .i64 ((1 : Nat) : Int)) w3 := by
                have h93 := (H8.out.alloc (.cells #[.slice (some ⟨g8, 0, none⟩) Lx c8] 23)).kept hg3 (own_ne H8.out Ho2.out (by decide))
                have hs9 := (HX2.out.kept (World.grownBy_alloc w2 (.cells #[.slice (some ⟨g8, 0, none⟩) Lx c8] 23) none) (fun k hk => by cases hk)).kept hg3 (fun k hk => own_tagX (Ho2.out.alloc _) k hk)
                exact ⟨1, m + 1, _, a9', c9', Nat.le_refl _, hn1, fun _ => rfl, rfl, rfl, rfl, ho3, HLx.out ▸ hx_row hs9 (HLx.out ▸ h93), h93, (Hb2.out.alloc (by omega) _).grown hg3 (by simp; omega) (fun k hk => (Ho2.out.lt k hk).1)⟩
              have Hst2 := Lib.hid hst
              clear ho3 hg3 hst
              go_loopw [9, 15] (fun v9 v15 wi => CopRel w1 D k' n m g8 Lx c8 true v9 v15 wi) (fun _ v15 _ => n - (intOf v15).toNat)
              case atStart => exact Hst2.out
              case round =>
                obtain ⟨j, mj, es, a9, c9, hj1, hjn, hjf, rfl, rfl, hmj, hoj, hXj, h8j, hbj⟩ := hrel
                have Hoj := Lib.hid hoj
                have HXj := Lib.hid hXj
                have H8j := Lib.hid h8j
                have Hbj := Lib.hid hbj
                have hsj := hbj.size
                clear hoj hXj h8j hbj
                by_cases hjl : j < n
                · go_wp2_with (first
                    | (at_builtin; refine wpList_append_own _ rfl (.tmp 75) (.tmp 77) 71 rfl w1.heap.size 23 j0 (.slice none 0 0) 1 24 Try.underlying71 hj hy0 hy1 hy2 rfl (by decide) _ _ _ rfl (Hoj.out.alloc _) ⟨wr.heap.size, 0, none⟩ 1 1 [.slice (some ⟨g8, 0, none⟩) Lx c8] rfl rfl (cell_one_new _ _ _) (slice_oneCell _ _ _) (by unfold maxLen; omega) (by omega) (by simp; omega) ?_; intro v9' w3 ho3 hg3 _))
                  obtain ⟨a9', c9', rfl, _⟩ := own_form ho3
                  have hfin : CopRel w1 D k' n m g8 Lx c8 true (.slice a9' (mj + 1) c9') (.int .i64 ((j + 1 : Nat) : Int)) w3 := by
                    have h93 := (H8j.out.alloc (.cells #[.slice (some ⟨g8, 0, none⟩) Lx c8] 23)).kept hg3 (own_ne H8j.out Hoj.out (by decide))
                    have hs9 := (HXj.out.kept (World.grownBy_alloc wr (.cells #[.slice (some ⟨g8, 0, none⟩) Lx c8] 23) none) (fun k hk => by cases hk)).kept hg3 (fun k hk => own_tagX (Hoj.out.alloc _) k hk)
                    have hs8 := hx_row hs9 (HLx.out ▸ h93)
                    rw [H.app_assoc, H.rep_app, show (H.z.app (.c k' .z)) = .c k' .z from rfl, H.rep_snoc] at hs8
                    rw [← HLx.out] at hs8
                    exact ⟨j + 1, mj + 1, _, a9', c9', by omega, by omega, fun h => (by cases h), rfl, rfl, by omega, ho3, hs8, h93, (Hbj.out.alloc (by omega) _).grown hg3 (by simp; omega) (fun k hk => (Hoj.out.lt k hk).1)⟩
                  have Hfin := Lib.hid hfin
                  clear ho3 hg3 hfin
                  go_wp2_with fail
                  go_roundw
                  case rel => exact Hfin.out
                  case measure => simp [intOf]; omega
                · obtain rfl : j = n := by omega
                  have hfin : CutRel w1 f h0 j (.int .i64 (-1)) (.slice a9 mj c9) (.bool ow) (.int .i64 ((i + 1 : Nat) : Int)) wr := by
                    refine ⟨i + 1, mj, -1, ow, D.app (H.rep j k' .z), d.app (.c k .z), r, es, a9, c9, rfl, rfl, rfl, rfl, by rw [H.app_assoc]; exact Hx1.out, by rw [H.app_cnt, Hx2.out]; rfl, by rw [H.app_cnt, H.rep_cnt, ← Hx3.out]; simp [H.cnt]; omega, by omega, by omega, by omega, Hoj.out, HXj.out, Hbj.out, ?_⟩
                    rw [Hcut.out, Hcp.out, H.cut_neg j r (-1) (by omega), H.app_assoc, H.rep_app]
                    rfl
                  have Hfin := Lib.hid hfin
                  clear hfin
                  go_wp2_with fail
                  go_roundw
                  case rel => exact Hfin.out
                  case measure => simp [intOf]; omega
            | false =>
              rw [hnear] at kc hcp
              have Hcp := Lib.hid hcp
              clear hpast hin hcp hkz0 hatr hk' hLx hnear
              go_wp2_with fail
              refine (kh.out).mono ?_
              rintro ee w' ⟨rfl, rfl⟩
              go_wp2_with fail
              refine (kc.out).mono ?_
              rintro ee w2 ⟨a8, c8, rfl, ho8, hb8⟩
              obtain ⟨g8, c8', hv8⟩ := Joins.ownsRow_form ho8 (by omega)
              simp only [Value.slice.injEq, true_and] at hv8
              obtain ⟨rfl, rfl⟩ := hv8
              have Ho2 := Lib.hid (ownsRow_below' Ho.out hb8)
              have HX2 := Lib.hid (HXr.out.kept (row := none) ⟨hb8.os, hb8.tape, hb8.output, hb8.size, fun k hk _ => hb8.block k hk⟩ (fun k hk => by cases hk))
              have Hb2 := Lib.hid (Hbr.out.trans (hb8.mono Hbr.out.size))
              have hs2 := Hb2.out.size
              have H8 := Lib.hid (Joins.ownsRow_le ho8 hsr)
              clear ho8 hb8
              go_wp2_with (first
                | (at_builtin; refine wpList_append_own _ rfl (.tmp 63) (.tmp 65) 71 rfl w1.heap.size 23 j0 (.slice none 0 0) 1 24 Try.underlying71 hj hy0 hy1 hy2 rfl (by decide) _ _ _ rfl (Ho2.out.alloc _) ⟨w2.heap.size, 0, none⟩ 1 1 [.slice (some ⟨g8, 0, none⟩) Lx c8] rfl rfl (cell_one_new _ _ _) (slice_oneCell _ _ _) (by unfold maxLen; omega) (by omega) (by simp; omega) ?_; intro v9' w3 ho3 hg3 _))
              obtain ⟨a9', c9', rfl, _⟩ := own_form ho3
              have hst : CopRel w1 D k' n m g8 Lx c8 false (.slice a9' (m + 1) c9') (.int .i64 ((1 : Nat) : Int)) w3 := by
                have h93 := (H8.out.alloc (.cells #[.slice (some ⟨g8, 0, none⟩) Lx c8] 23)).kept hg3 (own_ne H8.out Ho2.out (by decide))
                have hs9 := (HX2.out.kept (World.grownBy_alloc w2 (.cells #[.slice (some ⟨g8, 0, none⟩) Lx c8] 23) none) (fun k hk => by cases hk)).kept hg3 (fun k hk => own_tagX (Ho2.out.alloc _) k hk)
                exact ⟨1, m + 1, _, a9', c9', Nat.le_refl _, hn1, fun _ => rfl, rfl, rfl, rfl, ho3, HLx.out ▸ hx_row hs9 (HLx.out ▸ h93), h93, (Hb2.out.alloc (by omega) _).grown hg3 (by simp; omega) (fun k hk => (Ho2.out.lt k hk).1)⟩
              have Hst2 := Lib.hid hst
              clear ho3 hg3 hst
              go_loopw [9, 15] (fun v9 v15 wi => CopRel w1 D k' n m g8 Lx c8 false v9 v15 wi) (fun _ v15 _ => n - (intOf v15).toNat)
              case atStart => exact Hst2.out
              case round =>
                obtain ⟨j, mj, es, a9, c9, hj1, hjn, hjf, rfl, rfl, hmj, hoj, hXj, h8j, hbj⟩ := hrel
                have Hoj := Lib.hid hoj
                have HXj := Lib.hid hXj
                have H8j := Lib.hid h8j
                have Hbj := Lib.hid hbj
                have hsj := hbj.size
                clear hoj hXj h8j hbj
                obtain rfl : j = 1 := hjf rfl
                have hfin : CutRel w1 f h0 n (.int .i64 (-1)) (.slice a9 mj c9) (.bool ow) (.int .i64 ((i + 1 : Nat) : Int)) wr := by
                  refine ⟨i + 1, mj, -1, ow, D.app (H.rep 1 k' .z), d.app (.c k .z), r, es, a9, c9, rfl, rfl, rfl, rfl, by rw [H.app_assoc]; exact Hx1.out, by rw [H.app_cnt, Hx2.out]; rfl, by rw [H.app_cnt, H.rep_cnt, ← Hx3.out]; simp [H.cnt]; omega, by omega, by omega, by omega, Hoj.out, HXj.out, Hbj.out, ?_⟩
                  rw [Hcut.out, Hcp.out, H.cut_neg n r (-1) (by omega), H.app_assoc, H.rep_app]
                  simp [H.rep, H.app]
                have Hfin := Lib.hid hfin
                clear hfin hmj
                by_cases hjl : 1 < n
                · go_wp2_with fail
                  go_roundw
                  case rel => exact Hfin.out
                  case measure => simp [intOf]; omega
                · have hjl' : ¬ ((1 : Int) < (n : Int)) := by omega
                  go_wp2_with fail
                  go_roundw
                  case rel => exact Hfin.out
                  case measure => simp [intOf]; omega
      · have hu : u = .z := H.cnt_zero (by omega)
        subst hu
        have hdf : d = f := by rw [H.app_z] at h1; exact h1
        have hfin : (H.cut n f h0).1 = D ∧ (H.cut n f h0).2 = ow := by
          rw [hcut]
          simp [H.cut, H.app_z]
        have kt := Lib.hid (l5Tree_any a9 m c9 D wr (by rw [← hfin.1]; exact Nat.le_trans Hcl.out (by decide)) (Hs.of_own ho hX.hc h3))
        have hp : ∀ a5 c5 w5, w5.ownsRow wr.heap.size 3 1 (.slice a5 D.enc.length c5) D.enc.length (ints D.enc) → Below wr.heap.size wr w5 → OrdOkPost w rf ro (.returned (.tuple #[.slice a5 D.enc.length c5, .bool ow])) w5 := by
          intro a5 c5 w5 ho5 hb5
          rw [Hrf.out, Hro.out, hfin.1, hfin.2]
          exact ⟨a5, c5, rfl, Joins.ownsRow_le ho5 (by have := Hb1.out.size; omega), (Hb1.out.trans (hbr.mono Hb1.out.size)).trans (hb5.mono (by have := Hb1.out.size; omega))⟩
        have Hp := Lib.hid hp
        clear h1 h2 h3 hci ho hX hbr hcut hdf hfin hp
        go_wp2_with fail
        refine (kt.out).mono ?_
        rintro ee w5 ⟨a5, c5, rfl, ho5, hb5⟩
        have Hf := Lib.hid (Hp.out a5 c5 w5 ho5 hb5)
        clear ho5 hb5
        go_wp2_with fail
        go_ret2
        exact Hf.out

set_option maxHeartbeats 4000000 in
theorem spec_HydraCut (ao : Option Addr) (len cap : Nat) (xs : List Int) (h n : Int) (w : World) (hs : Sl w ao len cap xs) :
    Calls Try.prog 8 #[.slice ao len cap, .int .i64 h, .int .i64 n] w (OrdOkPost w (H.cutRow xs h n) (H.cutOkB xs h n)) := by
  have k1 := Lib.hid (spec_HydraValid ao len cap xs w hs)
  have k2 := Lib.hid (spec_HydraHeads ao len cap xs w hs)
  by_cases hv : H.hvB xs = true
  · rw [hv] at k1
    obtain ⟨f, he, h60, hof⟩ := H.hv_of hv
    have hhb : 0 ≤ H.headsRow xs ∧ H.headsRow xs ≤ 60 := by
      rw [H.headsRow, if_pos hv]
      have h3 := H.noughts_le (xs.drop 1)
      rw [List.length_drop] at h3
      have h4 : xs.length ≤ 60 := by rw [he]; exact h60
      omega
    by_cases hn : 1 ≤ n ∧ n ≤ 9
    · have k3 := Lib.hid (l1In_yes n 1 9 w hn.1 hn.2)
      obtain ⟨q, hq⟩ : ∃ q, q = H.headsRow xs := ⟨_, rfl⟩
      rw [← hq] at k2 hhb
      by_cases hh : 0 ≤ h ∧ h < q
      · have k4 := Lib.hid (l1In_yes h 0 (q - 1) w hh.1 (by omega))
        obtain ⟨nn, rfl⟩ := Int.eq_ofNat_of_zero_le (show 0 ≤ n by omega)
        subst he
        have hl : len = f.enc.length := hs.1.symm
        obtain ⟨b, off, rfl, hat⟩ := hs.2.2.2 (by rw [hl, H.enc_len]; omega)
        have k5 := Lib.hid (l5Cut_any (f.body.length + 1) b off len cap nn f h w (by omega) hs.1 (by omega) hs.2.1 hs.2.2.1 hat (by omega) (by omega) (by omega) (by omega))
        have hob : H.cutOkB f.enc h nn = decide ((H.cut nn f h).1.enc.length ≤ 60) := by
          rw [H.cutOkB, hv, ← hq, hof, decide_eq_true (show 1 ≤ ((nn : Nat) : Int) ∧ ((nn : Nat) : Int) ≤ 9 ∧ 0 ≤ h ∧ h < q from ⟨by omega, by omega, hh.1, hh.2⟩)]
          rfl
        have hrow : H.cutRow f.enc h nn = if decide ((H.cut nn f h).1.enc.length ≤ 60) = true then (H.cut nn f h).1.enc else [] := by
          rw [H.cutRow, hob, hof]; rfl
        rw [hob, hrow]
        obtain ⟨R, hR⟩ : ∃ R, R = (H.cut nn f h).1 := ⟨_, rfl⟩
        obtain ⟨o, ho⟩ : ∃ o, o = (H.cut nn f h).2 := ⟨_, rfl⟩
        unfold OrdOkPost at k5
        rw [← hR, ← ho] at k5
        rw [← hR]
        clear hs hv h60 hof hat hq hob hrow hR ho hl
        by_cases hl6 : R.enc.length ≤ 60
        · rw [decide_eq_true hl6, if_pos rfl]
          have Hl6 := Lib.hid hl6
          clear hl6
          go_enter Try.func8, Try.ntmps8
          go_wp2_with fail
          refine (k1.out).mono ?_
          rintro ee w' ⟨rfl, rfl⟩
          go_wp2_with fail
          refine (k3.out).mono ?_
          rintro ee w' ⟨rfl, rfl⟩
          go_wp2_with fail
          refine (k2.out).mono ?_
          rintro ee w' ⟨rfl, rfl⟩
          go_wp2_with fail
          refine (k4.out).mono ?_
          rintro ee w' ⟨rfl, rfl⟩
          go_wp2_with fail
          refine (k5.out).mono ?_
          rintro ee w1 ⟨a1, c1, rfl, ho1, hb1⟩
          have k6 := Lib.hid (spec_HydraValid a1 R.enc.length c1 R.enc w1 (Sl.of_own ho1))
          rw [H.hv_mk Hl6.out] at k6
          have Ho1 := Lib.hid ho1
          have Hb1 := Lib.hid hb1
          clear ho1 hb1
          go_wp2_with fail
          refine (k6.out).mono ?_
          rintro ee w' ⟨rfl, rfl⟩
          go_wp2_with fail
          go_ret2
          exact ⟨a1, c1, rfl, Ho1.out, Hb1.out⟩
        · rw [decide_eq_false hl6, if_neg (by simp)]
          have hnv : H.hvB R.enc = false := H.hvB_false.2 (fun h' => hl6 h'.1)
          have Hnv := Lib.hid hnv
          clear hl6 hnv
          go_enter Try.func8, Try.ntmps8
          go_wp2_with fail
          refine (k1.out).mono ?_
          rintro ee w' ⟨rfl, rfl⟩
          go_wp2_with fail
          refine (k3.out).mono ?_
          rintro ee w' ⟨rfl, rfl⟩
          go_wp2_with fail
          refine (k2.out).mono ?_
          rintro ee w' ⟨rfl, rfl⟩
          go_wp2_with fail
          refine (k4.out).mono ?_
          rintro ee w' ⟨rfl, rfl⟩
          go_wp2_with fail
          refine (k5.out).mono ?_
          rintro ee w1 ⟨a1, c1, rfl, ho1, hb1⟩
          have k6 := Lib.hid (spec_HydraValid a1 R.enc.length c1 R.enc w1 (Sl.of_own ho1))
          rw [Hnv.out] at k6
          have Hb1 := Lib.hid hb1
          clear ho1 hb1
          go_wp2_with fail
          refine (k6.out).mono ?_
          rintro ee w' ⟨rfl, rfl⟩
          go_wp2_with fail
          go_ret2
          exact lit_post Hb1.out
      · have k4 := Lib.hid (l1In_no h 0 (q - 1) w (by omega))
        have hb : H.cutOkB xs h n = false := H.cut_bad (fun h' => hh ⟨h'.2.2.2.1, by rw [hq]; exact h'.2.2.2.2⟩)
        rw [H.cut_no hb, hb]
        clear hs hv he h60 hof hq hh hb
        go_enter Try.func8, Try.ntmps8
        go_wp2_with fail
        refine (k1.out).mono ?_
        rintro ee w' ⟨rfl, rfl⟩
        go_wp2_with fail
        refine (k3.out).mono ?_
        rintro ee w' ⟨rfl, rfl⟩
        go_wp2_with fail
        refine (k2.out).mono ?_
        rintro ee w' ⟨rfl, rfl⟩
        go_wp2_with fail
        refine (k4.out).mono ?_
        rintro ee w' ⟨rfl, rfl⟩
        go_wp2_with fail
        go_ret2
        exact lit_post (Below.refl _ _)
    · have k3 := Lib.hid (l1In_no n 1 9 w (by omega))
      have hb : H.cutOkB xs h n = false := H.cut_bad (fun h' => hn ⟨h'.2.1, h'.2.2.1⟩)
      rw [H.cut_no hb, hb]
      clear hs hv he h60 hof hhb hn hb
      go_enter Try.func8, Try.ntmps8
      go_wp2_with fail
      refine (k1.out).mono ?_
      rintro ee w' ⟨rfl, rfl⟩
      go_wp2_with fail
      refine (k3.out).mono ?_
      rintro ee w' ⟨rfl, rfl⟩
      go_wp2_with fail
      go_ret2
      exact lit_post (Below.refl _ _)
  · have hv' : H.hvB xs = false := by cases hb : H.hvB xs with | true => exact absurd hb hv | false => rfl
    have hb : H.cutOkB xs h n = false := H.cut_bad (fun h' => hv h'.1)
    rw [H.cut_no hb, hb]
    rw [hv'] at k1
    clear hs hv hv' hb
    go_enter Try.func8, Try.ntmps8
    go_wp2_with fail
    refine (k1.out).mono ?_
    rintro ee w' ⟨rfl, rfl⟩
    go_wp2_with fail
    go_ret2
    exact lit_post (Below.refl _ _)

end Go.Proofs.Ytlbaelehmoidpaa

/- HydD -/
/- What the laws of chapter 5 draw: trees, hydras, and rows that are none. -/
namespace Go.Proofs.Ytlbaelehmoidpaa
set_option maxRecDepth 100000
open Go.RowKit

/-- How many numbers a tree of so many storeys has at most. -/
def Lt : Nat → Nat
  | 0 => 1
  | d + 1 => 1 + 3 * Lt d
theorem Lt_pos (d : Nat) : 1 ≤ Lt d := by cases d <;> simp [Lt]
theorem Lt_three {d : Nat} (h : d ≤ 3) : Lt d ≤ 40 := by
  have : d = 0 ∨ d = 1 ∨ d = 2 ∨ d = 3 := by omega
  rcases this with rfl | rfl | rfl | rfl <;> decide

def TreePost (w : World) (g P d : Nat) (e : Ending) (w' : World) : Prop :=
  ∃ (f : H) (g' c : Nat), e = .returned (.slice (some ⟨g', 0, none⟩) f.enc.length c) ∧ w'.ownsRow w.heap.size 3 1 (.slice (some ⟨g', 0, none⟩) f.enc.length c) f.enc.length (ints f.enc) ∧
    f.enc.length ≤ Lt d ∧ RdOk w' g (P + Lt d) ∧ w.grownBy w' (some g)

def TreeRel (w : World) (g P d : Nat) (v5 v6 : Value) (wr : World) : Prop :=
  ∃ (j : Nat) (f : H) (es : List Value) (a5 : Option Addr) (c5 : Nat), v6 = .int .i64 j ∧ v5 = .slice a5 f.cnt c5 ∧ j + f.cnt ≤ 3 ∧ wr.ownsRow w.heap.size 23 1 v5 f.cnt es ∧ HG wr w.heap.size f es ∧
    f.body.length ≤ f.cnt * Lt (d - 1) ∧ (d = 0 → f = .z) ∧ RdOk wr g (P + 1 + f.cnt * Lt (d - 1)) ∧ w.grownBy wr (some g)

theorem TreeRel.fin {w wr w' : World} {g P d : Nat} {e : Ending} {f : H} (hf : f.cnt ≤ 3) (hl : f.body.length ≤ f.cnt * Lt (d - 1)) (h0 : d = 0 → f = .z) (hr : RdOk wr g (P + 1 + f.cnt * Lt (d - 1))) (hg : w.grownBy wr (some g))
    (h : RowPost wr f.enc e w') : TreePost w g P d e w' := by
  obtain ⟨a, c, rfl, ho, hb⟩ := h
  obtain ⟨g', c', hv⟩ := Joins.ownsRow_form ho (by rw [H.enc_len]; omega)
  simp at hv
  obtain ⟨rfl, rfl⟩ := hv
  have hle : 1 + f.cnt * Lt (d - 1) ≤ Lt d := by
    cases d with
    | zero => rw [h0 rfl]; simp [H.cnt, Lt]
    | succ d =>
      have := Nat.mul_le_mul_right (Lt d) hf
      simp [Lt]; exact this
  refine ⟨f, g', c, rfl, Joins.ownsRow_le ho hg.size, by rw [H.enc_len]; omega, ?_, ?_⟩
  · exact (hr.kept (below_grown hb none) (fun k hk => by cases hk)).mono (by omega)
  · exact grownBy_step hg (below_grown hb none) (fun k hk => by cases hk)

set_option maxHeartbeats 2000000 in
theorem l20Tree_any (d : Nat) : ∀ (g P : Nat) (dI : Int) (w : World), dI = (d : Int) → P + 200 * d ≤ 95000000 → d ≤ 3 → RdOk w g P →
    Calls Try.prog 45 #[.pointer (some ⟨g, 0, none⟩), .int .i64 dI] w (TreePost w g P d) := by
  induction d with
  | zero =>
    intro g P dI w hd hP _ hrd
    subst hd
    have hgl : g < w.heap.size := by obtain ⟨_, _, _, _, h1, _⟩ := hrd; exact (Array.getElem?_eq_some_iff.1 h1).1
    have kp := Lib.hid (pick_any g P 4 (w.alloc (.cells #[] 23)) (by omega) (by decide) (by decide) (hrd.kept (World.grownBy_alloc w _ none) (fun k hk => by cases hk)))
    have hsz : (w.alloc (.cells #[] 23)).heap.size = w.heap.size + 1 := by simp
    have Hsz := Lib.hid hsz
    have ho0 : (w.alloc (.cells #[] 23)).ownsRow w.heap.size 23 1 (.slice (some ⟨w.heap.size, 0, none⟩) 0 0) 0 [] := World.ownsRow_lit w #[] 0 (Nat.le_refl _) (by simp [maxLen]) rfl
    have hg0 : w.grownBy (w.alloc (.cells #[] 23)) (some g) := World.grownBy_alloc w _ _
    have Ho0 := Lib.hid ho0
    have Hg0 := Lib.hid hg0
    clear hrd hsz ho0 hg0
    go_enter Try.func45, Try.ntmps45
    go_wp2_with fail
    refine (kp.out).mono ?_
    rintro ee w1 ⟨r, rfl, hr, hrd1, hg1⟩
    obtain ⟨j, rfl⟩ := Int.eq_ofNat_of_zero_le hr.1
    have hj4 : j ≤ 3 := by have := hr.2.1 (by decide); omega
    have kt := Lib.hid (l5Tree_any (some ⟨w.heap.size, 0, none⟩) 0 0 .z w1 (by simp [H.enc, H.body]) ⟨rfl, [], rfl, fun h => by omega⟩)
    have Hrd1 := Lib.hid hrd1
    have Hg1 := Lib.hid (grownBy_trans Hg0.out hg1)
    clear hr hrd1 hg1
    go_wp2_with fail
    go_loop [5, 6] (fun v5 v6 => v5 = .slice (some ⟨w.heap.size, 0, none⟩) 0 0 ∧ v6 = .int .i64 j) (fun _ _ => 0)
    case atStart => exact ⟨rfl, rfl⟩
    case round =>
      obtain ⟨rfl, rfl⟩ := hrel
      have hfin : ∀ ee w', RowPost w1 (H.enc .z) ee w' → TreePost w g P 0 ee w' := fun ee w' h => TreeRel.fin (by simp [H.cnt]) (by simp [H.body]) (fun _ => rfl) (by simpa [H.cnt] using Hrd1.out) Hg1.out h
      have Hfin := Lib.hid hfin
      clear hfin
      by_cases hj0 : 0 < j
      · have hn : decide ((0 : Int) < 0) = false := by decide
        go_wp2_with fail
        refine (kt.out).mono ?_
        intro ee w2 hpost
        obtain ⟨v, he⟩ : ∃ v, ee = .returned v := by obtain ⟨_, _, h, _⟩ := hpost; exact ⟨_, h⟩
        subst he
        have Hp := Lib.hid (Hfin.out _ _ hpost)
        clear hpost
        go_wp2_with fail
        go_ret
        exact Hp.out
      · obtain rfl : j = 0 := by omega
        go_wp2_with fail
        refine (kt.out).mono ?_
        intro ee w2 hpost
        obtain ⟨v, he⟩ : ∃ v, ee = .returned v := by obtain ⟨_, _, h, _⟩ := hpost; exact ⟨_, h⟩
        subst he
        have Hp := Lib.hid (Hfin.out _ _ hpost)
        clear hpost
        go_wp2_with fail
        go_ret
        exact Hp.out
  | succ d ih =>
    intro g P dI w hd hP hd3 hrd
    subst hd
    obtain ⟨j0, hj, hy0, hy1, hy2⟩ := info_parts info_ints
    have hgl : g < w.heap.size := by obtain ⟨_, _, _, _, h1, _⟩ := hrd; exact (Array.getElem?_eq_some_iff.1 h1).1
    have kp := Lib.hid (pick_any g P 4 (w.alloc (.cells #[] 23)) (by omega) (by decide) (by decide) (hrd.kept (World.grownBy_alloc w _ none) (fun k hk => by cases hk)))
    have ho0 : (w.alloc (.cells #[] 23)).ownsRow w.heap.size 23 1 (.slice (some ⟨w.heap.size, 0, none⟩) 0 0) 0 [] := World.ownsRow_lit w #[] 0 (Nat.le_refl _) (by simp [maxLen]) rfl
    have hg0 : w.grownBy (w.alloc (.cells #[] 23)) (some g) := World.grownBy_alloc w _ _
    have Ho0 := Lib.hid ho0
    have Hg0 := Lib.hid hg0
    have IH := Lib.hid ih
    have hL : Lt d ≤ 40 := Lt_three (by omega)
    have hdd : ((d + 1 : Nat) : Int) = (d : Int) + 1 := by omega
    rw [hdd]
    have hdp : (0 : Int) < (d : Int) + 1 := by omega
    clear hrd ho0 hg0 ih hdd
    go_enter Try.func45, Try.ntmps45
    go_wp2_with fail
    refine (kp.out).mono ?_
    rintro ee w1 ⟨r, rfl, hr, hrd1, hg1⟩
    obtain ⟨j, rfl⟩ := Int.eq_ofNat_of_zero_le hr.1
    have hj4 : j ≤ 3 := by have := hr.2.1 (by decide); omega
    have hst : TreeRel w g P (d + 1) (.slice (some ⟨w.heap.size, 0, none⟩) 0 0) (.int .i64 (j : Int)) w1 :=
      ⟨j, .z, [], _, _, rfl, rfl, by simp [H.cnt]; exact hj4, own_rd Ho0.out hg1 hgl, rfl, by simp [H.body], fun _ => rfl, by simpa [H.cnt] using hrd1, grownBy_trans Hg0.out hg1⟩
    have Hst := Lib.hid hst
    clear hr hrd1 hg1 hst
    go_wp2_with fail
    go_loopg [5, 6] j (fun k v5 v6 wr => TreeRel w g P (d + 1) v5 v6 wr ∧ v6 = .int .i64 (k : Nat))
    case atStart => exact ⟨Hst.out, rfl⟩
    case round =>
      obtain ⟨⟨i, f, es, a5, c5, rfl, rfl, hi3, ho, hG, hbl, _, hrd, hg⟩, hgk⟩ := hrel
      obtain rfl : i = gk := by have h : (i : Int) = (gk : Int) := by simpa using hgk
                                omega
      have hcm : f.cnt * Lt d ≤ 120 := by
        have := Nat.mul_le_mul (show f.cnt ≤ 3 by omega) hL
        omega
      simp only [Nat.add_sub_cancel] at hbl hrd
      have Hbl := Lib.hid hbl
      have Hcm := Lib.hid hcm
      have Hi3 := Lib.hid hi3
      by_cases hi0 : 0 < i
      · have k2 := Lib.hid (IH.out g (P + 1 + f.cnt * Lt d) (d : Int) wr rfl (by omega) (by omega) hrd)
        have Ho := Lib.hid ho
        have HGt := Lib.hid hG
        have Hg := Lib.hid hg
        have hf3 : f.cnt ≤ 3 := by omega
        have hi33 : i ≤ 3 := by omega
        clear ho hG hrd hg hbl hcm hi3 hgk
        have hw1 : (d : Int) + 1 - 1 = (d : Int) := by omega
        go_wp2_with fail
        refine (k2.out).mono ?_
        rintro ee w2 ⟨e, g2, c2, rfl, ho2, hl2, hrd2, hg2⟩
        have HoA := Lib.hid (own_rd Ho.out hg2 hgl)
        have HGA := Lib.hid (HGt.out.kept hg2 (fun k hk => by cases hk; exact .inl hgl))
        have HgA := Lib.hid (grownBy_trans Hg.out hg2)
        have Ho2 := Lib.hid (Joins.ownsRow_le ho2 Hg.out.size)
        have Hrd2 := Lib.hid hrd2
        have Hl2 := Lib.hid hl2
        have hws : w.heap.size ≤ w2.heap.size := HgA.out.size
        clear ho2 hl2 hrd2 hg2
        go_wp2_with (first
          | (at_builtin; refine wpList_append_own _ rfl (.tmp 18) (.tmp 23) 71 rfl w.heap.size 23 j0 (.slice none 0 0) 1 24 Try.underlying71 hj hy0 hy1 hy2 rfl (by decide) _ _ _ rfl (HoA.out.alloc _) ⟨w2.heap.size, 0, none⟩ 1 1 [.slice (some ⟨g2, 0, none⟩) e.enc.length c2] rfl rfl (cell_one_new _ _ _) (slice_oneCell _ _ _) (by unfold maxLen; omega) (by omega) (by simp; omega) ?_; intro v2' w3 ho3 hg3 _))
        have hrow : ∀ k o, Value.ownBlock (.slice a5 f.cnt c5) = some k → k < w.heap.size ∨ ∃ cs fr, (w2.alloc o).heap[k]? = some (.cells cs 23 fr) := fun k o hk => .inr (own_tag (HoA.out.alloc o) k hk)
        have hrw : ∀ k, Value.ownBlock (.slice a5 f.cnt c5) = some k → w.heap.size ≤ k := fun k hk => (HoA.out.lt k hk).1
        obtain ⟨a6, c6, rfl, _⟩ := own_form ho3
        have hfin : TreeRel w g P (d + 1) (.slice a6 (f.cnt + 1) c6) (.int .i64 ((i - 1 : Nat) : Int)) w3 := by
          have hgB : w2.grownBy (w2.alloc (.cells #[.slice (some ⟨g2, 0, none⟩) e.enc.length c2] 23)) none := World.grownBy_alloc w2 _ none
          have hrd3 : RdOk w3 g (P + 1 + f.cnt * Lt d + Lt d) := (Hrd2.out.kept hgB (fun k hk => by cases hk)).kept hg3 (fun k hk => by have := hrw k hk; omega)
          have hGA := (HGA.out.kept hgB (fun k hk => by cases hk)).kept hg3 (fun k hk => hrow k _ hk)
          have hoe := (Ho2.out.alloc (.cells #[.slice (some ⟨g2, 0, none⟩) e.enc.length c2] 23)).kept hg3 (own_ne Ho2.out HoA.out (by decide))
          have hcn : (f.app (.c e .z)).cnt = f.cnt + 1 := by rw [H.app_cnt]; rfl
          have hmm : (f.cnt + 1) * Lt d = f.cnt * Lt d + Lt d := by rw [Nat.add_mul, Nat.one_mul]
          refine ⟨i - 1, f.app (.c e .z), es ++ [.slice (some ⟨g2, 0, none⟩) e.enc.length c2], a6, c6, rfl, by rw [hcn], ?_, ?_, hGA.snoc hoe, ?_, fun h => by omega, ?_, ?_⟩
          · rw [hcn]; have := Hi3.out; omega
          · rw [hcn]; exact ho3
          · simp only [Nat.add_sub_cancel]
            rw [H.app_body, H.body_c, hcn, hmm]
            have h1 := Hl2.out
            have h2 := Hbl.out
            simp [H.body]; omega
          · simp only [Nat.add_sub_cancel]
            rw [hcn, hmm]
            exact hrd3.mono (by omega)
          · exact grownBy_step (grownBy_step HgA.out hgB (fun k hk => by cases hk)) hg3 (fun k hk => .inr (hrw k hk))
        have Hfin := Lib.hid hfin
        clear hfin ho3 hg3 hrow hrw
        go_wp2_with fail
        go_roundg (i - 1)
        case measure => omega
        case rel =>
          have hv6 : (i : Int) - 1 = ((i - 1 : Nat) : Int) := by omega
          rw [hv6]
          exact ⟨Hfin.out, rfl⟩
      · obtain rfl : i = 0 := by omega
        have kt2 := Lib.hid (l5Tree_any a5 f.cnt c5 f wr (by rw [H.enc_len]; omega) (Hs.of_own ho hG.hc rfl))
        have hfin : ∀ ee w', RowPost wr f.enc ee w' → TreePost w g P (d + 1) ee w' := fun ee w' h => TreeRel.fin (by omega) Hbl.out (fun h => by omega) (by simpa using hrd) hg h
        have Hfin := Lib.hid hfin
        clear hfin ho hG hrd hg hbl hcm hi3 hgk
        go_wp2_with fail
        refine (kt2.out).mono ?_
        intro ee w2 hpost
        obtain ⟨v, he⟩ : ∃ v, ee = .returned v := by obtain ⟨_, _, h, _⟩ := hpost; exact ⟨_, h⟩
        subst he
        have Hp := Lib.hid (Hfin.out _ _ hpost)
        clear hpost
        go_wp2_with fail
        go_ret
        exact Hp.out

/-- A row that was drawn. -/
def HydPost (w : World) (g P : Nat) (e : Ending) (w' : World) : Prop :=
  ∃ (xs : List Int) (g' n c : Nat), n = xs.length ∧ e = .returned (.slice (some ⟨g', 0, none⟩) n c) ∧ w'.ownsRow w.heap.size 3 1 (.slice (some ⟨g', 0, none⟩) n c) n (ints xs) ∧
    n ≤ 50 ∧ RdOk w' g (P + 400) ∧ w.grownBy w' (some g)

def HydRel (w : World) (g P k : Nat) (v5 v6 : Value) (wr : World) : Prop :=
  ∃ (j : Nat) (t : H) (g1 c1 : Nat), v6 = .int .i64 j ∧ k + j = 5 ∧ v5 = .slice (some ⟨g1, 0, none⟩) t.enc.length c1 ∧ wr.ownsRow w.heap.size 3 1 v5 t.enc.length (ints t.enc) ∧
    t.enc.length ≤ 40 ∧ RdOk wr g (P + 40 + j * 41) ∧ w.grownBy wr (some g)

def HydCut (w : World) (g P : Nat) (v5 : Value) (wx : World) : Prop :=
  ∃ (xs : List Int) (g1 n c1 : Nat), n = xs.length ∧ v5 = .slice (some ⟨g1, 0, none⟩) n c1 ∧ wx.ownsRow w.heap.size 3 1 v5 n (ints xs) ∧ n ≤ 40 ∧ RdOk wx g (P + 300) ∧ w.grownBy wx (some g)

theorem HydRel.cut {w wr : World} {g P k : Nat} {v5 v6 : Value} (h : HydRel w g P k v5 v6 wr) : HydCut w g P v5 wr := by
  obtain ⟨j, t, g1, c1, rfl, hk, rfl, ho, hl, hr, hg⟩ := h
  exact ⟨t.enc, g1, t.enc.length, c1, rfl, rfl, ho, hl, hr.mono (by omega), hg⟩

theorem hyd_fin {w w7 w8 : World} {g P n g' c : Nat} {xs : List Int} (h0 : w.grownBy w7 (some g)) (hg : w7.grownBy w8 none) (hr : RdOk w7 g (P + 400)) (hn : n = xs.length) (hl : n ≤ 50)
    (ho : w8.ownsRow w7.heap.size 3 1 (.slice (some ⟨g', 0, none⟩) n c) n (ints xs)) : HydPost w g P (.returned (.slice (some ⟨g', 0, none⟩) n c)) w8 :=
  ⟨xs, g', n, c, hn, rfl, Joins.ownsRow_le ho h0.size, hl, hr.kept hg (fun k hk => by cases hk), grownBy_step h0 hg (fun k hk => by cases hk)⟩

theorem hyd_news {w : World} {B e n b c : Nat} {xs : List Value} {o : Obj} (ho : w.ownsRow B e 1 (.slice (some ⟨b, 0, none⟩) n c) n xs) :
    ∀ j x, xs[j]? = some x → (w.alloc o).cell? ((⟨b, 0, none⟩ : Addr).add j) = some x := by
  intro j x hx
  have hj : j < xs.length := (List.getElem?_eq_some_iff.1 hx).1
  have hl := ho.1
  rw [Addr.add_lit, Nat.zero_add, World.cell?_alloc_past _ _ _ (ho.lt b rfl).2, ho.cellAt j (by omega)]
  exact hx

theorem hyd_le {w w' : World} {o : Obj} {row : Option Nat} (hg : (w.alloc o).grownBy w' row) : w.heap.size + 1 ≤ w'.heap.size := by
  have := hg.size
  simpa using this

theorem hyd_gn {wz W w' : World} {row : Option Nat} (h : wz.grownBy W none) (k : W.grownBy w' row) (hr : ∀ r, row = some r → wz.heap.size ≤ r) : wz.grownBy w' none := by
  refine ⟨k.os.trans h.os, k.tape.trans h.tape, k.output.trans h.output, Nat.le_trans h.size k.size, fun i hi hne => ?_⟩
  rw [k.block i (Nat.lt_of_lt_of_le hi h.size) (fun e => by have := hr i e.symm; omega)]
  exact h.block i hi hne

set_option maxHeartbeats 2000000 in
theorem l20Hydra_any (g P : Nat) (n : Int) (w : World) (hP : P ≤ 90000000) (hn0 : 0 ≤ n) (hn1 : n ≤ 1000000) (hrd : RdOk w g P) :
    Calls Try.prog 23 #[.pointer (some ⟨g, 0, none⟩), .int .i64 n] w (HydPost w g P) := by
  obtain ⟨i0, hi, hz0, hz1, hz2⟩ := info_parts info_int
  have hgl : g < w.heap.size := by obtain ⟨_, _, _, _, h1, _⟩ := hrd; exact (Array.getElem?_eq_some_iff.1 h1).1
  have k3 := Lib.hid (l20Tree_any 3 g P 3 w rfl (by omega) (by omega) hrd)
  clear hrd
  go_enter Try.func23, Try.ntmps23
  go_wp2_with fail
  refine (k3.out).mono ?_
  rintro ee w1 ⟨t1, g1, c1, rfl, ho1, hl1, hr1, hg1⟩
  have hst : HydRel w g P 5 (.slice (some ⟨g1, 0, none⟩) t1.enc.length c1) (.int .i64 0) w1 :=
    ⟨0, t1, g1, c1, rfl, rfl, rfl, ho1, Nat.le_trans hl1 (by decide), hr1.mono (by simp [Lt]), hg1⟩
  have Hst := Lib.hid hst
  clear hst ho1 hl1 hr1 hg1
  go_upto_block 0 with fail
  go_cut [5] (fun v5 wx => HydCut w g P v5 wx)
  case first =>
    go_wp2_with fail
    go_loopg [5, 6] 5 (fun k v5 v6 wr => HydRel w g P k v5 v6 wr)
    case atStart => exact Hst.out
    case round =>
      have Hrel := Lib.hid hrel
      obtain ⟨j, t, g2, c2, rfl, hkj, rfl, ho, hl, hr, hg⟩ := hrel
      have Hkj := Lib.hid hkj
      have hj5 : j ≤ 5 := by omega
      by_cases hj : j < 5
      · have goOn : (20 < t.enc.length ∨ t.enc.length < 3) ∨ ¬ (20 < t.enc.length) ∧ ¬ (t.enc.length < 3) := by omega
        have kp := Lib.hid (pick_any g (P + 40 + j * 41) 3 wr (by omega) (by decide) (by decide) hr)
        have Hg := Lib.hid hg
        have Ho := Lib.hid ho
        rcases goOn with hgo | ⟨hno1, hno2⟩
        · rcases hgo with hlen | hlen
          all_goals
            have hlen' : decide (20 < t.enc.length) = false ∨ 20 < t.enc.length := by simp; omega
            clear hkj ho hr hg
            go_wp2_with fail
            refine (kp.out).mono ?_
            rintro ee w2 ⟨r, rfl, hr3, hrd2, hg2⟩
            obtain ⟨rn, rfl⟩ := Int.eq_ofNat_of_zero_le hr3.1
            have hrn : rn ≤ 2 := by have := hr3.2.1 (by decide); omega
            have k2 := Lib.hid (l20Tree_any (rn + 1) g (P + 40 + j * 41 + 1) (1 + (rn : Int)) w2 (by omega) (by omega) (by omega) hrd2)
            have HgA := Lib.hid (grownBy_trans Hg.out hg2)
            clear hr3 hrd2 hg2
            go_wp2_with fail
            refine (k2.out).mono ?_
            rintro ee w3 ⟨t2, g3, c3, rfl, ho3, hl3, hr3, hg3⟩
            have hfin : HydRel w g P (gk - 1) (.slice (some ⟨g3, 0, none⟩) t2.enc.length c3) (.int .i64 ((j + 1 : Nat) : Int)) w3 := by
              have hL := Lt_three (show rn + 1 ≤ 3 by omega)
              exact ⟨j + 1, t2, g3, c3, rfl, by have := Hkj.out; omega, rfl, Joins.ownsRow_le ho3 HgA.out.size, by omega, hr3.mono (by omega), grownBy_trans HgA.out hg3⟩
            have Hfin := Lib.hid hfin
            clear hfin ho3 hl3 hr3 hg3
            go_wp2_with fail
            go_roundg (gk - 1)
            case measure => have := Hkj.out; omega
            case rel => exact Hfin.out
        · clear hkj ho hr hg
          go_wp2_with fail
          go_meet
          exact HydRel.cut Hrel.out
      · clear hkj ho hr hg
        go_wp2_with fail
        go_meet
        exact HydRel.cut Hrel.out
  case rest =>
    obtain ⟨xs, g2, m, c2, hm, rfl, ho, hl, hr, hg⟩ := hcut
    obtain ⟨w5, rfl⟩ : ∃ w5 : World, w5 = wc := ⟨_, rfl⟩
    have Hm := Lib.hid hm
    have Ho := Lib.hid ho
    have Hg := Lib.hid hg
    have Hr := Lib.hid hr
    have ko := Lib.hid (odd_any g (P + 300) n w5 (by omega) (by omega) (by omega) hr)
    have hm60 : ¬ 60 < m := by omega
    clear hm ho hg hr
    go_wp2_with fail
    refine (ko.out).mono ?_
    rintro ee w6 ⟨b, rfl, hr6, hg6⟩
    have Hg6 := Lib.hid (grownBy_trans Hg.out hg6)
    have Ho6 := Lib.hid (own_rd Ho.out hg6 hgl)
    have Hr6 := Lib.hid hr6
    clear hr6 hg6
    cases b with
    | false =>
      go_wp2_with fail
      go_ret
      exact ⟨xs, g2, m, c2, Hm.out, rfl, Ho6.out, by omega, Hr6.out.mono (by omega), Hg6.out⟩
    | true =>
      have kp := Lib.hid (pick_any g (P + 300 + 1) 4 w6 (by omega) (by decide) (by decide) Hr6.out)
      go_wp2_with fail
      refine (kp.out).mono ?_
      rintro ee w7 ⟨r, rfl, hr7, hrd7, hg7⟩
      have hr70 := hr7.1
      have hr71 := hr7.2.1 (by decide)
      have Hg7 := Lib.hid (grownBy_trans Hg6.out hg7)
      have Ho7 := Lib.hid (own_rd Ho6.out hg7 hgl)
      have Hr7 := Lib.hid (hrd7.mono (show P + 300 + 1 + 1 ≤ P + 400 by omega))
      clear hr7 hrd7 hg7
      have hcase : r = 0 ∨ r = 1 ∨ r = 2 ∨ r = 3 := by omega
      rcases hcase with rfl | rfl | rfl | rfl
      · go_wp2_with fail
        go_ret
        exact hyd_fin (xs := []) Hg7.out (World.grownBy_alloc w7 _ none) Hr7.out rfl (by decide) (World.ownsRow_lit w7 #[] 0 (Nat.le_refl _) (by simp [maxLen]) rfl)
      · have HX := Lib.hid (show (ints xs).length = m * 1 by rw [ints_len]; have := Hm.out; omega)
        have HN := Lib.hid (show ∀ j u, (ints xs)[j]? = some u → (w7.alloc (.cells #[] 3)).cell? ((⟨g2, 0, none⟩ : Addr).add j) = some u from hyd_news Ho7.out)
        go_wp2_with (first
          | (at_builtin; refine wpList_append_own _ rfl (.tmp 43) (.tmp 44) 23 rfl w7.heap.size 3 i0 (.int .i64 0) 1 8 Try.underlying23 hi hz0 hz1 hz2 rfl (by decide) _ 0 [] rfl (World.ownsRow_lit w7 #[] 0 (Nat.le_refl _) (by simp [maxLen]) rfl) ⟨g2, 0, none⟩ m c2 (ints xs) rfl HX.out HN.out (ints_one _) (by unfold maxLen; omega) (by omega) (by simp) ?_; intro v1 w8 ho1 hg1 _)
          | (at_builtin; refine wpList_append_own _ rfl (.tmp 45) (.tmp 46) 23 rfl w7.heap.size 3 i0 (.int .i64 0) 1 8 Try.underlying23 hi hz0 hz1 hz2 rfl (by decide) _ m (ints xs) rfl ((own0 ho1).alloc _) ⟨w8.heap.size, 0, none⟩ 1 1 [.int .i64 0] rfl rfl (cell_one_new _ _ _) (ints_oneCell _ [0]) (by unfold maxLen; omega) (by omega) (by have h1 : w7.heap.size + 1 ≤ w8.heap.size := hyd_le hg1; simp; omega) ?_; intro v2 w9 ho2 hg2 _))
        obtain ⟨g5, c5, rfl⟩ := Joins.ownsRow_form ho2 (by omega)
        have hgA := hyd_gn (hyd_gn (hyd_gn (World.grownBy_alloc w7 _ none) hg1 (fun r e => by cases e; exact Nat.le_refl _)) (World.grownBy_alloc w8 _ none) (fun r e => by cases e)) hg2 (fun r e => ((own0 ho1).lt r e).1)
        have hfin : HydPost w g P (.returned (.slice (some ⟨g5, 0, none⟩) (m + 1) c5)) w9 :=
          hyd_fin (xs := xs ++ [0]) Hg7.out hgA Hr7.out (by have := Hm.out; simp; omega) (by omega) (by simpa [ints] using ho2)
        have Hfin := Lib.hid hfin
        clear hfin hgA ho1 hg1 ho2 hg2
        go_wp2_with fail
        go_ret
        exact Hfin.out
      · go_wp2_with fail
        go_ret
        exact hyd_fin (xs := [1]) Hg7.out (World.grownBy_alloc w7 _ none) Hr7.out rfl (by decide) (World.ownsRow_lit w7 _ 1 (Nat.le_refl _) (by simp [maxLen]) rfl)
      · go_wp2_with fail
        go_ret
        exact hyd_fin (xs := [-1]) Hg7.out (World.grownBy_alloc w7 _ none) Hr7.out rfl (by decide) (World.ownsRow_lit w7 _ 1 (Nat.le_refl _) (by simp [maxLen]) rfl)

def HydDraw (w : World) (e : Ending) (w' : World) : Prop :=
  ∃ (xs : List Int) (g n c : Nat), n = xs.length ∧ e = .returned (.slice (some ⟨g, 0, none⟩) n c) ∧ w'.ownsRow w.heap.size 3 1 (.slice (some ⟨g, 0, none⟩) n c) n (ints xs) ∧ n ≤ 50 ∧ Below w.heap.size w w'

theorem HydPost.draw {w w1 w2 : World} {e : Ending} (h : HydPost w1 w.heap.size 0 e w2) (hb : Below w.heap.size w w1) : HydDraw w e w2 := by
  obtain ⟨xs, g, n, c, hn, rfl, ho, hl, _, hg⟩ := h
  exact ⟨xs, g, n, c, hn, rfl, Joins.ownsRow_le ho hb.size, hl, hb.grown hg hb.size (fun k e => by cases e; exact Nat.le_refl _)⟩

end Go.Proofs.Ytlbaelehmoidpaa

/- DrawHc -/
/- The draws of the laws of HydraCut and HydraRun. -/
namespace Go.Proofs.Ytlbaelehmoidpaa
set_option maxRecDepth 100000
open Go.RowKit

theorem heads_bnd (xs : List Int) : -1 ≤ H.headsRow xs ∧ H.headsRow xs ≤ 60 := by
  rcases H.hv_tf xs with hv | hv
  · have h1 := H.heads_facts hv
    have h2 := H.hv_len hv
    omega
  · rw [H.heads_bad hv]; omega

/-- A pick, divided. -/
theorem pick_div {r : Int} {m d : Nat} (h0 : 0 ≤ r) (h1 : r < m) (hd : (d : Int) + 1 = m) (hp : 1 ≤ d) : ∃ q : Int, r.tdiv d = q ∧ 0 ≤ q ∧ q ≤ 1 := by
  refine ⟨r.tdiv d, rfl, Int.tdiv_nonneg h0 (by omega), ?_⟩
  rw [Int.tdiv_eq_ediv_of_nonneg h0]
  have h2 : r / (d : Int) ≤ (d : Int) / (d : Int) := Int.ediv_le_ediv (by omega) (by omega)
  rw [Int.ediv_self (by omega)] at h2
  exact h2

def HcDraw (w : World) (e : Ending) (w' : World) : Prop :=
  ∃ (xs : List Int) (hd q : Int) (g n c : Nat), n = xs.length ∧ e = .returned (.tuple #[.slice (some ⟨g, 0, none⟩) n c, .int .i64 hd, .int .i64 q]) ∧ w'.ownsRow w.heap.size 3 1 (.slice (some ⟨g, 0, none⟩) n c) n (ints xs) ∧ n ≤ 50 ∧ Below w.heap.size w w'

set_option maxHeartbeats 4000000 in
theorem drawHydraCut_any (a : Option Addr) (len cap : Nat) (w : World) (h : By w a len cap) : Calls Try.prog 6 #[.slice a len cap] w (HcDraw w) := by
  have k0 := Lib.hid (open_any a len cap w h)
  obtain ⟨g, hg⟩ : ∃ g, g = w.heap.size := ⟨_, rfl⟩
  rw [← hg] at k0
  have Hg := Lib.hid hg
  clear hg h
  go_enter Try.func6, Try.ntmps6
  go_wp2_with fail
  refine (k0.out).mono ?_
  rintro ee w1 ⟨rfl, hr1, hb1⟩
  have hgl : g < w1.heap.size := by obtain ⟨_, _, _, _, h1, _⟩ := hr1; exact (Array.getElem?_eq_some_iff.1 h1).1
  have Hb1 := Lib.hid hb1
  have k1 := Lib.hid (l20Hydra_any g 0 12 w1 (by decide) (by decide) (by decide) hr1)
  clear hb1 hr1
  go_wp2_with fail
  refine (k1.out).mono ?_
  rintro ee w2 ⟨xs, g', n, c, hn, rfl, ho2, hl, hr2, hg2⟩
  have k2 := Lib.hid (spec_HydraHeads (some ⟨g', 0, none⟩) n c xs w2 (Sl.of_own ho2))
  obtain ⟨q0, hq0⟩ : ∃ q, q = H.headsRow xs := ⟨_, rfl⟩
  have hqb := heads_bnd xs
  rw [← hq0] at k2 hqb
  obtain ⟨hq1, hq2⟩ := hqb
  have Ho2 := Lib.hid ho2
  have Hn := Lib.hid hn
  have Hg2 := Lib.hid hg2
  have Hr2 := Lib.hid hr2
  clear ho2 hn hg2 hq0 hr2
  have hm0 : 0 ≤ max q0 0 ∧ max q0 0 ≤ 60 := by omega
  have k3 := Lib.hid (pick_any g (0 + 400) (max q0 0 + 1) w2 (by decide) (by omega) (by omega) Hr2.out)
  have Hm0 := Lib.hid hm0
  have hfin : ∀ (w7 : World) (hd q : Int), w2.grownBy w7 (some g) → HcDraw w (.returned (.tuple #[.slice (some ⟨g', 0, none⟩) n c, .int .i64 hd, .int .i64 q])) w7 := by
    intro w7 hd q hG
    have hgl2 : g < w1.heap.size := hgl
    have ho7 := own_rd Ho2.out hG hgl2
    have hb12 : Below w.heap.size w w1 := by rw [← Hg.out]; exact Hb1.out
    have hgw : w.heap.size ≤ g := by rw [Hg.out]; exact Nat.le_refl _
    refine ⟨xs, hd, q, g', n, c, Hn.out, rfl, Joins.ownsRow_le ho7 hb12.size, hl, ?_⟩
    exact (hb12.grown Hg2.out hb12.size (fun k e => by cases e; exact hgw)).grown hG (Nat.le_trans hb12.size Hg2.out.size) (fun k e => by cases e; exact hgw)
  have Hfin := Lib.hid hfin
  clear hfin
  clear hm0
  go_wp2_with fail
  refine (k2.out).mono ?_
  rintro ee w' ⟨rfl, rfl⟩
  go_wp2_with fail
  refine (k3.out).mono ?_
  rintro ee w3 ⟨r1, rfl, hp1, hr3, hg3⟩
  have hp10 := hp1.1
  have hp11 : r1 ≤ 61 := by have hm := Hm0.out; have := hp1.2.1 (by omega); omega
  have k4 := Lib.hid (pick_any g (0 + 400 + 1) 20 w3 (by decide) (by decide) (by decide) hr3)
  have Hg3 := Lib.hid hg3
  clear hp1 hr3 hg3
  go_wp2_with fail
  refine (k4.out).mono ?_
  rintro ee w4 ⟨r2, rfl, hp2, hr4, hg4⟩
  obtain ⟨d2, hd2, hd20, hd21⟩ := pick_div (m := 20) (d := 19) hp2.1 (hp2.2.1 (by decide)) (by decide) (by decide)
  have hp20 := hp2.1
  have hp21 : r2 ≤ 20 := by have := hp2.2.1 (by decide); omega
  have hd2' : r2.tdiv 19 = d2 := hd2
  have k5 := Lib.hid (pick_any g (0 + 400 + 1 + 1) 4 w4 (by decide) (by decide) (by decide) hr4)
  have Hg4 := Lib.hid (grownBy_trans Hg3.out hg4)
  clear hp2 hr4 hg4 hd2
  go_wp2_with fail
  refine (k5.out).mono ?_
  rintro ee w5 ⟨r3, rfl, hp3, hr5, hg5⟩
  have hp30 := hp3.1
  have hp31 : r3 ≤ 4 := by have := hp3.2.1 (by decide); omega
  have k6 := Lib.hid (pick_any g (0 + 400 + 1 + 1 + 1) 30 w5 (by decide) (by decide) (by decide) hr5)
  have Hg5 := Lib.hid (grownBy_trans Hg4.out hg5)
  clear hp3 hr5 hg5
  go_wp2_with fail
  refine (k6.out).mono ?_
  rintro ee w6 ⟨r4, rfl, hp4, hr6, hg6⟩
  obtain ⟨d4, hd4, hd40, hd41⟩ := pick_div (m := 30) (d := 29) hp4.1 (hp4.2.1 (by decide)) (by decide) (by decide)
  have hp40 := hp4.1
  have hp41 : r4 ≤ 30 := by have := hp4.2.1 (by decide); omega
  have hd4' : r4.tdiv 29 = d4 := hd4
  have k7 := Lib.hid (pick_any g (0 + 400 + 1 + 1 + 1 + 1) 30 w6 (by decide) (by decide) (by decide) hr6)
  have Hg6 := Lib.hid (grownBy_trans Hg5.out hg6)
  clear hp4 hr6 hg6 hd4
  go_wp2_with fail
  refine (k7.out).mono ?_
  rintro ee w7 ⟨r5, rfl, hp5, hr7, hg7⟩
  obtain ⟨d5, hd5, hd50, hd51⟩ := pick_div (m := 30) (d := 29) hp5.1 (hp5.2.1 (by decide)) (by decide) (by decide)
  have hp50 := hp5.1
  have hp51 : r5 ≤ 30 := by have := hp5.2.1 (by decide); omega
  have hd5' : r5.tdiv 29 = d5 := hd5
  have Hf := Lib.hid (fun hd q => Hfin.out w7 hd q (grownBy_trans Hg6.out hg7))
  clear hp5 hr7 hg7 hd5
  go_wp2_with fail
  go_ret3
  exact Hf.out _ _

end Go.Proofs.Ytlbaelehmoidpaa

/- DrawHd -/
/- The draws of the laws of HydraCut and HydraRun. -/
namespace Go.Proofs.Ytlbaelehmoidpaa
set_option maxRecDepth 100000
open Go.RowKit

def HrDraw (w : World) (e : Ending) (w' : World) : Prop :=
  ∃ (xs hs : List Int) (q : Int) (g n c : Nat) (a2 : Option Addr) (n2 c2 : Nat), n = xs.length ∧ n2 = hs.length ∧ n2 ≤ 11 ∧ e = .returned (.tuple #[.slice (some ⟨g, 0, none⟩) n c, .slice a2 n2 c2, .int .i64 q]) ∧
    w'.ownsRow w.heap.size 3 1 (.slice (some ⟨g, 0, none⟩) n c) n (ints xs) ∧ w'.ownsRow w.heap.size 3 1 (.slice a2 n2 c2) n2 (ints hs) ∧ n ≤ 50 ∧ Below w.heap.size w w'

/-- What the loop keeps: the heads that were drawn, and the hydra that they leave. -/
def HrRel (B0 B : Nat) (g k : Nat) (v8 v9 : Value) (w2 wr : World) : Prop :=
  ∃ (j : Nat) (hs now : List Int) (a8 a9 : Option Addr) (c8 l9 c9 : Nat), j = hs.length ∧ j + k = 11 ∧ v8 = .slice a8 j c8 ∧ v9 = .slice a9 l9 c9 ∧ wr.ownsRow B 3 1 (.slice a8 j c8) j (ints hs) ∧
    wr.ownsRow B0 3 1 (.slice a9 l9 c9) l9 (ints now) ∧ (∀ b, (Value.slice a8 j c8).ownBlock = some b → (Value.slice a9 l9 c9).ownBlock ≠ some b) ∧ l9 ≤ 1000 ∧ B ≤ wr.heap.size ∧ RdOk wr g (410 + 2 * j) ∧ w2.grownBy wr (some g)

set_option maxHeartbeats 4000000 in
theorem drawHydraRun_any (a : Option Addr) (len cap : Nat) (w : World) (h : By w a len cap) : Calls Try.prog 14 #[.slice a len cap] w (HrDraw w) := by
  obtain ⟨i0, hi, hz0, hz1, hz2⟩ := info_parts info_int
  have k0 := Lib.hid (open_any a len cap w h)
  obtain ⟨g, hg⟩ : ∃ g, g = w.heap.size := ⟨_, rfl⟩
  rw [← hg] at k0
  have Hg := Lib.hid hg
  clear hg h
  go_enter Try.func14, Try.ntmps14
  go_wp2_with fail
  refine (k0.out).mono ?_
  rintro ee w1 ⟨rfl, hr1, hb1⟩
  have hgl : g < w1.heap.size := by obtain ⟨_, _, _, _, h1, _⟩ := hr1; exact (Array.getElem?_eq_some_iff.1 h1).1
  have Hb1 := Lib.hid hb1
  have k1 := Lib.hid (l20Hydra_any g 0 12 w1 (by decide) (by decide) (by decide) hr1)
  clear hb1 hr1
  go_wp2_with fail
  refine (k1.out).mono ?_
  rintro ee w2 ⟨xs, g', n, c, hn, rfl, ho2, hl, hr2, hg2⟩
  have Ho2 := Lib.hid ho2
  have Hn := Lib.hid hn
  have Hg2 := Lib.hid hg2
  have k2 := Lib.hid (pick_any g (0 + 400) 2 w2 (by decide) (by decide) (by decide) hr2)
  clear ho2 hn hg2 hr2
  go_wp2_with fail
  refine (k2.out).mono ?_
  rintro ee w3 ⟨r1, rfl, hp1, hr3, hg3⟩
  have hp10 := hp1.1
  have hp11 : r1 ≤ 2 := by have := hp1.2.1 (by decide); omega
  have ha := World.grownBy_alloc w3 (.cells #[] 3) (some g)
  have k3 := Lib.hid (pick_any g (0 + 400 + 1) 12 (w3.alloc (.cells #[] 3)) (by decide) (by decide) (by decide) (hr3.kept (World.grownBy_alloc w3 _ none) (fun k hk => by cases hk)))
  have HO3 := Lib.hid (World.ownsRow_lit (base := w3.heap.size) (e := 3) (size := 1) w3 #[] 0 (Nat.le_refl _) (by simp [maxLen]) rfl)
  have Hg3 := Lib.hid (grownBy_trans hg3 ha)
  have Hs3 := Lib.hid (show g < w3.heap.size by have h1 := Hg2.out.size; have h2 := hg3.size; omega)
  have Hs23 := Lib.hid hg3.size
  clear hp1 hr3 hg3 ha
  go_wp2_with fail
  refine (k3.out).mono ?_
  rintro ee w4 ⟨r2, rfl, hp2, hr4, hg4⟩
  obtain ⟨K, rfl⟩ := Int.eq_ofNat_of_zero_le hp2.1
  have hK : K ≤ 11 := by have := hp2.2.1 (by decide); omega
  have hgw : g < w2.heap.size := by have h1 := Hg2.out.size; omega
  have Hst := Lib.hid (show HrRel w1.heap.size w3.heap.size g 11 (.slice (some ⟨w3.heap.size, 0, none⟩) 0 0) (.slice (some ⟨g', 0, none⟩) n c) w2 w4 from
    ⟨0, [], xs, _, _, _, n, c, rfl, rfl, rfl, rfl, own_rd HO3.out hg4 Hs3.out, own_rd Ho2.out (grownBy_trans Hg3.out hg4) hgl, fun b hb h9 => by
      simp [Value.ownBlock] at hb h9
      have h1 := (Ho2.out.lt g' rfl).2
      have h2 := Hs23.out
      omega, by omega, by have h1 := hg4.size; simpa using Nat.le_of_succ_le (by simpa using h1), hr4.mono (by omega), grownBy_trans Hg3.out hg4⟩)
  have Hfin := Lib.hid (fun (k : Nat) (v8 v9 : Value) (wr : World) (hR : HrRel w1.heap.size w3.heap.size g k v8 v9 w2 wr) => show HrDraw w (.returned (.tuple #[.slice (some ⟨g', 0, none⟩) n c, v8, .int .i64 (1 + r1)])) wr from by
    obtain ⟨j, hs, now, a8, a9, c8, l9, c9, h1, h2, rfl, rfl, ho8, _, _, _, _, _, hG⟩ := hR
    have hb12 : Below w.heap.size w w1 := by rw [← Hg.out]; exact Hb1.out
    have hgg : w.heap.size ≤ g := by rw [Hg.out]; exact Nat.le_refl _
    have ho7 := own_rd Ho2.out hG hgl
    have hs1 := Hg2.out.size
    have hs2 := Hs23.out
    exact ⟨xs, hs, 1 + r1, g', n, c, a8, j, c8, Hn.out, h1, by omega, rfl, Joins.ownsRow_le ho7 hb12.size, Joins.ownsRow_le ho8 (by have := hb12.size; omega), hl, (hb12.grown Hg2.out hb12.size (fun k e => by cases e; exact hgg)).grown hG (Nat.le_trans hb12.size Hg2.out.size) (fun k e => by cases e; exact hgg)⟩)
  have Hrel := Lib.hid hgl
  clear hp2 hr4 hg4
  go_wp2_with fail
  go_loopg [8, 9, 10] (11 : Nat) (fun gk v8 v9 v10 wr => ∃ z : Nat, v10 = .int .i64 z ∧ z ≤ gk ∧ gk ≤ 11 ∧ HrRel w1.heap.size w3.heap.size g gk v8 v9 w2 wr)
  case atStart => exact ⟨K, rfl, by omega, by omega, Hst.out⟩
  case round =>
    obtain ⟨z, rfl, hz1', hz2', hR⟩ := hrel
    by_cases hz : 0 < z
    · obtain ⟨j, hs, now, a8, a9, c8, l9, c9, hj, hjk, rfl, rfl, ho8, ho9, hne, hl9, hB3, hrd, hG⟩ := hR
      have hs9 := Sl.of_own ho9
      have hl9c := hs9.2.1
      have hc9 := hs9.2.2.1
      unfold maxLen at hc9
      by_cases hl1 : 1 < l9
      · have kh := Lib.hid (spec_HydraHeads a9 l9 c9 now wr hs9)
        obtain ⟨q0, hq0⟩ : ∃ q, q = H.headsRow now := ⟨_, rfl⟩
        have hqb := heads_bnd now
        rw [← hq0] at kh hqb
        obtain ⟨hq1, hq2⟩ := hqb
        have hm0 : 1 ≤ max q0 1 ∧ max q0 1 ≤ 60 := by omega
        have kp := Lib.hid (pick_any g (410 + 2 * j) (max q0 1) wr (by omega) (by omega) (by omega) hrd)
        have Ho8 := Lib.hid ho8
        have Ho9 := Lib.hid ho9
        have Hne := Lib.hid hne
        have hl9' := hl9
        have HG := Lib.hid hG
        have Hj := Lib.hid hj
        have Hm0 := Lib.hid hm0
        have hj11 : j ≤ 11 := by omega
        have hwr : w2.heap.size ≤ wr.heap.size := hG.size
        clear ho8 ho9 hs9 hne hrd hG hq0 hm0 hj
        go_wp2_with fail
        refine (kh.out).mono ?_
        rintro ee w' ⟨rfl, rfl⟩
        go_wp2_with fail
        refine (kp.out).mono ?_
        rintro ee w5 ⟨x, rfl, hpx, hr5, hg5⟩
        have hx0 := hpx.1
        have hx1 : x ≤ 60 := by have h1 := Hm0.out; have := hpx.2.1 (by omega); omega
        have Ho8a := Lib.hid (own_rd Ho8.out hg5 Hs3.out)
        have HGa := Lib.hid (grownBy_trans HG.out hg5)
        have Hr5 := Lib.hid hr5
        have hw5 : w3.heap.size ≤ w5.heap.size := Nat.le_trans hB3 hg5.size
        have Ho9a := Lib.hid (own_rd Ho9.out hg5 hgl)
        clear hpx hr5 hg5
        go_wp2_with (first
          | (at_builtin; refine wpList_append_own_at _ rfl (.tmp 39) (.tmp 41) 23 rfl w3.heap.size 3 i0 (.int .i64 0) 1 8 Try.underlying23 hi hz0 hz1 hz2 rfl (by decide) _ _ _ rfl (Ho8a.out.alloc _) ⟨w5.heap.size, 0, none⟩ 1 1 [.int .i64 x] rfl rfl (cell_one_new _ _ _) (by simp [Value.oneCell']) (by unfold maxLen; omega) (by omega) (by simp; omega) ?_; intro v2' w6 ho6 hg6 _ hat6))
        obtain ⟨a6, c6, rfl, _⟩ := own_form ho6
        have hga : w5.grownBy (w5.alloc (.cells #[.int .i64 x] 3)) none := World.grownBy_alloc w5 _ none
        have hs6 : w5.heap.size + 1 ≤ w6.heap.size := by have := hg6.size; simpa using this
        have ho9b : w6.ownsRow w1.heap.size 3 1 (.slice a9 l9 c9) l9 (ints now) := (Ho9a.out.kept hga (by cases (Value.slice a9 l9 c9).ownBlock <;> simp)).kept hg6 (by
          cases h9 : (Value.slice a9 l9 c9).ownBlock with
          | none => exact .inl rfl
          | some b =>
            refine .inr fun e => ?_
            exact Hne.out b e.symm h9)
        have h8lt : ∀ b, (Value.slice a8 j c8).ownBlock = some b → w3.heap.size ≤ b := fun b hb => (Ho8a.out.lt b hb).1
        have hrd6 : RdOk w6 g (410 + 2 * j + 1) := (Hr5.out.kept hga (fun k hk => by cases hk)).kept hg6 (fun k hk => by have h1 := h8lt k hk; have h2 := Hs3.out; omega)
        have hG6 : w2.grownBy w6 (some g) := by
          refine grownBy_step (grownBy_step HGa.out hga (fun k hk => by cases hk)) hg6 (fun k hk => .inr ?_)
          have h1 := h8lt k hk
          have h2 := Hs23.out
          omega
        have Hne6 := Lib.hid (show ∀ b, (Value.slice a6 (j + 1) c6).ownBlock = some b → (Value.slice a9 l9 c9).ownBlock ≠ some b from fun b hb h9 => by
          have h9l := (Ho9a.out.lt b h9).2
          rcases hat6 with h7 | h7
          · rw [h7] at hb
            exact Hne.out b hb h9
          · rw [h7] at hb
            simp at hb
            omega)
        have kc := Lib.hid (spec_HydraCut a9 l9 c9 now x (1 + r1) w6 (Sl.of_own ho9b))
        unfold OrdOkPost at kc
        have Ho6 := Lib.hid ho6
        have Ho9c := Lib.hid ho9b
        have Hrd6 := Lib.hid hrd6
        have HG6 := Lib.hid hG6
        have h6g : ∀ b, (Value.slice a6 (j + 1) c6).ownBlock = some b → b < w6.heap.size := fun b hb => (ho6.lt b hb).2
        have H6g := Lib.hid h6g
        clear ho6 hg6 hat6 hga ho9b h8lt hrd6 hG6 h6g
        cases hq : H.cutOkB now x (1 + r1) with
        | true =>
          rw [hq] at kc
          obtain ⟨r, hr⟩ : ∃ r, r = H.cutRow now x (1 + r1) := ⟨_, rfl⟩
          have hrl : r.length ≤ 1000 := by rw [hr]; exact H.cutRow_len _ _ _
          rw [← hr] at kc
          clear hq hr
          go_wp2_with fail
          refine (kc.out).mono ?_
          rintro ee w7 ⟨a7, c7, rfl, ho7, hb7⟩
          have hg7 : w6.grownBy w7 none := below_grown hb7 none
          have HR := Lib.hid (show HrRel w1.heap.size w3.heap.size g (gk - 1) (.slice a6 (j + 1) c6) (.slice a7 r.length c7) w2 w7 from by
            refine ⟨j + 1, hs ++ [x], r, a6, a7, c6, r.length, c7, by simp [Hj.out], by omega, rfl, rfl, ?_, Joins.ownsRow_le ho7 (by have h1 := HG6.out.size; have h2 := Hg2.out.size; omega), ?_, hrl, ?_, ?_, ?_⟩
            · have := ownsRow_below' Ho6.out hb7
              simpa [ints] using this
            · intro b hb h7
              have h1 := H6g.out b hb
              have h2 := (ho7.lt b h7).1
              omega
            · exact Nat.le_trans (by omega) hg7.size
            · exact (Hrd6.out.kept hg7 (fun k hk => by cases hk)).mono (by omega)
            · exact grownBy_step HG6.out hg7 (fun k hk => by cases hk))
          clear ho7 hb7 hg7
          go_wp2_with fail
          go_roundg (gk - 1)
          case measure => omega
          case rel => exact ⟨z - 1, by rw [show ((z - 1 : Nat) : Int) = (z : Int) - 1 by omega], by omega, by omega, HR.out⟩
        | false =>
          rw [hq, H.cut_no hq] at kc
          clear hq
          go_wp2_with fail
          refine (kc.out).mono ?_
          rintro ee w7 ⟨a7, c7, rfl, ho7, hb7⟩
          have hg7 : w6.grownBy w7 none := below_grown hb7 none
          have HR := Lib.hid (show HrRel w1.heap.size w3.heap.size g (gk - 1) (.slice a6 (j + 1) c6) (.slice a9 l9 c9) w2 w7 from by
            refine ⟨j + 1, hs ++ [x], now, a6, a9, c6, l9, c9, by simp [Hj.out], by omega, rfl, rfl, ?_, ownsRow_below' Ho9c.out hb7, Hne6.out, hl9', Nat.le_trans (by omega) hg7.size, ?_, ?_⟩
            · have := ownsRow_below' Ho6.out hb7
              simpa [ints] using this
            · exact (Hrd6.out.kept hg7 (fun k hk => by cases hk)).mono (by omega)
            · exact grownBy_step HG6.out hg7 (fun k hk => by cases hk))
          clear ho7 hb7 hg7
          go_wp2_with fail
          go_roundg (gk - 1)
          case measure => omega
          case rel => exact ⟨z - 1, by rw [show ((z - 1 : Nat) : Int) = (z : Int) - 1 by omega], by omega, by omega, HR.out⟩
      · go_wp2_with fail
        go_ret3
        exact Hfin.out _ _ _ _ ⟨j, hs, now, a8, a9, c8, l9, c9, hj, hjk, rfl, rfl, ho8, ho9, hne, hl9, hB3, hrd, hG⟩
    · obtain ⟨j, hs, now, a8, a9, c8, l9, c9, hj, hjk, rfl, rfl, ho8, ho9, hne, hl9, hB3, hrd, hG⟩ := hR
      go_wp2_with fail
      go_ret3
      exact Hfin.out _ _ _ _ ⟨j, hs, now, a8, a9, c8, l9, c9, hj, hjk, rfl, rfl, ho8, ho9, hne, hl9, hB3, hrd, hG⟩

end Go.Proofs.Ytlbaelehmoidpaa

/- HydW -/
/- HydraRun and HydraFight of the program and of the model. -/
namespace Go.Proofs.Ytlbaelehmoidpaa
set_option maxRecDepth 100000
open Go.RowKit

/-- What the loops of HydraRun keep. -/
def RunRel (w : World) (n : Int) (xs hs : List Int) (v : Value) (i : Nat) (wr : World) : Prop :=
  ∃ (a : Option Addr) (c : Nat) (now : List Int), v = .slice a now.length c ∧ H.runR n xs hs = H.runR n now (hs.drop i) ∧ now.length ≤ 1000 ∧ wr.ownsRow w.heap.size 3 1 (.slice a now.length c) now.length (ints now) ∧ Below w.heap.size w wr

theorem run_step {n : Int} {xs hs now : List Int} {i : Nat} {x : Int} (h : H.runR n xs hs = H.runR n now (hs.drop i)) (hi : i < hs.length) (hx : x = hs.getD i 0) :
    H.runR n xs hs = if H.cutOkB now x n = true then H.runR n (H.cutRow now x n) (hs.drop (i + 1)) else none := by
  rw [h, List.drop_eq_getElem_cons hi, H.runR]
  have : hs[i] = x := by rw [hx]; simp [hi]
  rw [this]

theorem run_end {w wr : World} {n : Int} {xs hs : List Int} {v : Value} {i : Nat} (h : RunRel w n xs hs v i wr) (hi : hs.length ≤ i) (h1 : H.hvB xs = true) (h2 : 1 ≤ n ∧ n ≤ 9) (h3 : hs.length ≤ 400) :
    OrdOkPost w (H.runRow xs hs n) (H.runOkB xs hs n) (.returned (.tuple #[v, .bool true])) wr := by
  obtain ⟨a, c, now, rfl, he, hl, ho, hb⟩ := h
  rw [List.drop_of_length_le hi, H.runR] at he
  have hok : H.runOkB xs hs n = true := by rw [H.run_ok h1 h2 h3, he]; rfl
  have hrow : H.runRow xs hs n = now := by rw [H.runRow, if_pos hok, he]; rfl
  rw [hok, hrow]
  exact ⟨a, c, rfl, ho, hb⟩

theorem run_none {xs hs : List Int} {n : Int} (h1 : H.hvB xs = true) (h2 : 1 ≤ n ∧ n ≤ 9) (h3 : hs.length ≤ 400) (he : H.runR n xs hs = none) : H.runOkB xs hs n = false := by rw [H.run_ok h1 h2 h3, he]; rfl

theorem clone_any (ao : Option Addr) (len cap : Nat) (xs : List Int) (w : World) (h : Sl w ao len cap xs) (hl : len ≤ 1000000) :
    Calls Try.prog 37 #[.slice ao len cap] w fun e w' => ∃ a c, e = .returned (.slice a len c) ∧ w'.ownsRow w.heap.size 3 1 (.slice a len c) len (ints xs) ∧ Below w.heap.size w w' := by
  obtain ⟨h1, h2, h3, h4⟩ := h
  rcases Nat.eq_zero_or_pos len with hz | hp
  · subst hz
    have hx : xs = [] := List.eq_nil_of_length_eq_zero h1
    subst hx
    cases ao with
    | none =>
      refine (Try.slices_Clone_int_nil 0 cap w).mono ?_
      rintro e w' ⟨rfl, rfl⟩
      exact ⟨none, 0, rfl, World.ownsRow_nil _ _ _ _, Below.refl _ _⟩
    | some a =>
      refine (Try.slices_Clone_int_zero a cap w).mono ?_
      rintro e w' ⟨v, rfl, ho, _, hb⟩
      obtain ⟨a', c', rfl, _⟩ := own_form ho
      exact ⟨a', c', rfl, ho, hb⟩
  · obtain ⟨b, off, rfl, hat⟩ := h4 hp
    refine (Try.slices_Clone_int b off len cap xs w (by omega) (by omega) hat).mono ?_
    rintro e w' ⟨v, rfl, ho, _, hb⟩
    rw [List.take_of_length_le (by omega)] at ho
    obtain ⟨a', c', rfl, _⟩ := own_form ho
    exact ⟨a', c', rfl, ho, hb⟩

set_option maxHeartbeats 4000000 in
theorem impl_HydraRun (a1 : Option Addr) (n1 c1 : Nat) (xs : List Int) (a2 : Option Addr) (n2 c2 : Nat) (hs : List Int) (n : Int) (w : World) (h : Sl w a1 n1 c1 xs) (h' : Sl w a2 n2 c2 hs) :
    Calls Try.prog 15 #[.slice a1 n1 c1, .slice a2 n2 c2, .int .i64 n] w (OrdOkPost w (H.runRow xs hs n) (H.runOkB xs hs n)) := by
  have k1 := Lib.hid (impl_HydraValid a1 n1 c1 xs w h)
  have k2 := Lib.hid (isCopies_any n w)
  have hl2 : hs.length = n2 := h'.1
  have hn2c : n2 ≤ c2 := h'.2.1
  have hc2 : c2 ≤ 9223372036854775807 := h'.2.2.1
  rcases H.hv_tf xs with hv | hv
  · rw [hv] at k1
    by_cases hn : 1 ≤ n ∧ n ≤ 9
    · rw [decide_eq_true hn] at k2
      by_cases h4 : n2 ≤ 400
      · have hlx := H.hv_len hv
        have hl1 : n1 = xs.length := h.1.symm
        have k3 := Lib.hid (clone_any a1 n1 c1 xs w h (by omega))
        have H2 := Lib.hid h'
        have HV := Lib.hid hv
        have HN := Lib.hid hn
        have HL := Lib.hid hl2
        have H1 := Lib.hid hl1
        clear h h' hv hl1 hlx hl2
        go_enter Try.func15, Try.ntmps15
        go_wp2_with fail
        refine (k1.out).mono ?_
        rintro ee w' ⟨rfl, rfl⟩
        go_wp2_with fail
        refine (k2.out).mono ?_
        rintro ee w' ⟨rfl, rfl⟩
        go_wp2_with fail
        refine (k3.out).mono ?_
        rintro ee w3 ⟨a3, c3, rfl, ho3, hb3⟩
        have Hst := Lib.hid (show RunRel w n xs hs (.slice a3 n1 c3) 0 w3 from by
          refine ⟨a3, c3, xs, by rw [H1.out], rfl, by have := (H.hv_len HV.out).2; omega, ?_, hb3⟩
          rw [← H1.out]; exact ho3)
        clear ho3 hb3
        go_wp2_with fail
        go_loopw [8, 30] (fun v8 v30 wr => ∃ i : Nat, i ≤ n2 ∧ v30 = .int .i64 i ∧ RunRel w n xs hs v8 i wr) (fun _ v30 _ => n2 - (intOf v30).toNat)
        case atStart => exact ⟨0, Nat.zero_le _, rfl, Hst.out⟩
        case round =>
          obtain ⟨i, hi, rfl, hR⟩ := hrel
          by_cases hlt : i < n2
          · obtain ⟨a, c, now, rfl, he, hl, ho, hbr⟩ := hR
            obtain ⟨b, off, rfl, hat⟩ := H2.out.2.2.2 (by omega)
            obtain ⟨x, hx⟩ : ∃ x, x = hs.getD i 0 := ⟨_, rfl⟩
            have hc := ((hat.below hbr (hat.lt (by intro e; have := HL.out; rw [e] at this; simp at this; omega))) i (by rw [HL.out]; exact hlt))
            rw [← hx] at hc
            have hst := run_step he (by rw [HL.out]; exact hlt) hx
            have kc := Lib.hid (impl_HydraCut a now.length c now x n wr (Sl.of_own ho))
            unfold OrdOkPost at kc
            have Hbr := Lib.hid hbr
            cases hq : H.cutOkB now x n with
            | true =>
              rw [hq] at kc
              rw [if_pos hq] at hst
              obtain ⟨r, hr⟩ : ∃ r, r = H.cutRow now x n := ⟨_, rfl⟩
              have hrl : r.length ≤ 1000 := by rw [hr]; exact H.cutRow_len now x n
              rw [← hr] at kc hst
              have Hst2 := Lib.hid hst
              clear he hl ho hbr hat hx hst hq hr
              go_wp2_with fail
              refine (kc.out).mono ?_
              rintro ee w4 ⟨a4, c4, rfl, ho4, hb4⟩
              have HR := Lib.hid (show RunRel w n xs hs (.slice a4 r.length c4) (i + 1) w4 from ⟨a4, c4, r, rfl, Hst2.out, hrl, Joins.ownsRow_le ho4 Hbr.out.size, Hbr.out.trans (hb4.mono Hbr.out.size)⟩)
              clear ho4 hb4
              go_wp2_with fail
              go_roundw
              case rel => exact ⟨i + 1, by omega, by go_num, HR.out⟩
              case measure => simp [intOf]; omega
            | false =>
              rw [hq, H.cut_no hq] at kc
              rw [if_neg (by rw [hq]; simp)] at hst
              have hoB := run_none HV.out HN.out (by rw [HL.out]; exact h4) hst
              have Hfin := Lib.hid (fun (w4 : World) (hb4 : Below wr.heap.size wr w4) => show OrdOkPost w (H.runRow xs hs n) (H.runOkB xs hs n) (.returned (.tuple #[.slice none 0 0, .bool false])) w4 from by
                rw [hoB, H.run_no hoB]
                exact OrdOkPost.nil (nil_own _ _) (Hbr.out.trans (hb4.mono Hbr.out.size)))
              clear he hl ho hbr hat hx hst hq hoB
              go_wp2_with fail
              refine (kc.out).mono ?_
              rintro ee w4 ⟨a4, c4, rfl, ho4, hb4⟩
              have Hf := Lib.hid (Hfin.out w4 hb4)
              clear ho4 hb4
              go_wp2_with fail
              go_ret2
              exact Hf.out
          · obtain rfl : i = n2 := by omega
            have Hf := Lib.hid (run_end hR (by rw [HL.out]; exact Nat.le_refl _) HV.out HN.out (by rw [HL.out]; exact h4))
            obtain ⟨a, c, now, rfl, _⟩ := hR
            go_wp2_with fail
            go_ret2
            exact Hf.out
      · have hq : H.runOkB xs hs n = false := H.run_bad (fun h5 => h4 (by rw [← hl2]; exact h5.2.2))
        rw [H.run_no hq, hq]
        clear h h' hv hl2 hq
        go_enter Try.func15, Try.ntmps15
        go_wp2_with fail
        refine (k1.out).mono ?_
        rintro ee w' ⟨rfl, rfl⟩
        go_wp2_with fail
        refine (k2.out).mono ?_
        rintro ee w' ⟨rfl, rfl⟩
        go_wp2_with fail
        go_ret2
        exact OrdOkPost.nil (nil_own _ _) (Below.refl _ _)
    · have hq : H.runOkB xs hs n = false := H.run_bad (fun h5 => hn h5.2.1)
      rw [decide_eq_false hn] at k2
      rw [H.run_no hq, hq]
      clear h h' hv hl2 hq
      go_enter Try.func15, Try.ntmps15
      go_wp2_with fail
      refine (k1.out).mono ?_
      rintro ee w' ⟨rfl, rfl⟩
      go_wp2_with fail
      refine (k2.out).mono ?_
      rintro ee w' ⟨rfl, rfl⟩
      go_wp2_with fail
      go_ret2
      exact OrdOkPost.nil (nil_own _ _) (Below.refl _ _)
  · have hq : H.runOkB xs hs n = false := H.run_bad (fun h5 => by rw [hv] at h5; exact absurd h5.1 (by simp))
    rw [hv] at k1
    rw [H.run_no hq, hq]
    clear h h' hv hl2 hq
    go_enter Try.func15, Try.ntmps15
    go_wp2_with fail
    refine (k1.out).mono ?_
    rintro ee w' ⟨rfl, rfl⟩
    go_wp2_with fail
    go_ret2
    exact OrdOkPost.nil (nil_own _ _) (Below.refl _ _)

set_option maxHeartbeats 4000000 in
theorem spec_HydraRun (a1 : Option Addr) (n1 c1 : Nat) (xs : List Int) (a2 : Option Addr) (n2 c2 : Nat) (hs : List Int) (n : Int) (w : World) (h : Sl w a1 n1 c1 xs) (h' : Sl w a2 n2 c2 hs) :
    Calls Try.prog 16 #[.slice a1 n1 c1, .slice a2 n2 c2, .int .i64 n] w (OrdOkPost w (H.runRow xs hs n) (H.runOkB xs hs n)) := by
  obtain ⟨i0, hi, hz0, hz1, hz2⟩ := info_parts info_int
  have k1 := Lib.hid (spec_HydraValid a1 n1 c1 xs w h)
  have hl2 : hs.length = n2 := h'.1
  have hn2c : n2 ≤ c2 := h'.2.1
  have hc2 : c2 ≤ 9223372036854775807 := h'.2.2.1
  have hnil := Lib.hid (show OrdOkPost w [] false (.returned (.tuple #[.slice (some ⟨w.heap.size, 0, none⟩) 0 0, .bool false])) (w.alloc (.cells #[] 3)) from
    OrdOkPost.nil (World.ownsRow_lit w #[] 0 (Nat.le_refl _) (by simp [maxLen]) rfl) ((Below.refl _ _).alloc (Nat.le_refl _) _))
  rcases H.hv_tf xs with hv | hv
  · rw [hv] at k1
    by_cases h4 : n2 ≤ 400
    · by_cases hn : 1 ≤ n ∧ n ≤ 9
      · have k2 := Lib.hid (l1In_yes n 1 9 w hn.1 hn.2)
        have hlx := H.hv_len hv
        have hl1 : n1 = xs.length := h.1.symm
        obtain ⟨b1, off1, rfl, hat1⟩ := h.2.2.2 (by omega)
        have HLx := Lib.hid (show (ints xs).length = n1 * 1 by rw [ints_len, h.1]; omega)
        have HNx := Lib.hid (show ∀ j u, (ints xs)[j]? = some u → (w.alloc (.cells #[] 3)).cell? ((⟨b1, off1, none⟩ : Addr).add j) = some u by
          intro j u hj
          have hjl := (List.getElem?_eq_some_iff.1 hj).1
          rw [ints_len] at hjl
          rw [ints_get xs j hjl] at hj
          cases hj
          rw [Addr.add_lit, ((Below.refl w.heap.size w).alloc (Nat.le_refl _) (.cells #[] 3)).cell (hat1.lt (by intro h; rw [h] at hjl; simp at hjl))]
          exact hat1 j hjl)
        have HO := Lib.hid (World.ownsRow_lit (base := w.heap.size) (e := 3) (size := 1) w #[] 0 (Nat.le_refl _) (by simp [maxLen]) rfl)
        have H2 := Lib.hid h'
        have HV := Lib.hid hv
        have HN := Lib.hid hn
        have HL := Lib.hid hl2
        have H1 := Lib.hid hl1
        have hn160 : n1 ≤ 60 := by omega
        clear h h' hv hl1 hlx hl2 hat1 hnil
        go_enter Try.func16, Try.ntmps16
        go_wp2_with fail
        refine (k1.out).mono ?_
        rintro ee w' ⟨rfl, rfl⟩
        go_wp2_with fail
        refine (k2.out).mono ?_
        rintro ee w' ⟨rfl, rfl⟩
        go_wp2_with (first
          | (at_builtin; refine wpList_append_own _ rfl (.tmp 26) (.tmp 27) 23 rfl w.heap.size 3 i0 (.int .i64 0) 1 8 Try.underlying23 hi hz0 hz1 hz2 rfl (by decide) _ 0 [] rfl HO.out ⟨b1, off1, none⟩ n1 c1 (ints xs) rfl HLx.out HNx.out (ints_oneCell _ xs) (by unfold maxLen; omega) (by omega) (by simp) ?_; intro v3 w3 ho3 hg3 _))
        obtain ⟨a3, c3, rfl, _⟩ := own_form ho3
        have Hst := Lib.hid (show RunRel w n xs hs (.slice a3 n1 c3) 0 w3 from by
          have e1 : 0 + n1 = xs.length := by rw [H1.out]; omega
          have e2 : n1 = xs.length := H1.out
          rw [e1] at ho3
          rw [e2]
          refine ⟨a3, c3, xs, rfl, rfl, by have := (H.hv_len HV.out).2; omega, by simpa using ho3, ((Below.refl w.heap.size w).alloc (Nat.le_refl _) _).grown hg3 (by simp) (fun r e => (HO.out.lt r e).1)⟩)
        clear ho3 hg3
        simp only [Nat.zero_add]
        go_wp2_with fail
        go_loopw [8, 9] (fun v8 v9 wr => ∃ i : Nat, i ≤ n2 ∧ v9 = .int .i64 i ∧ RunRel w n xs hs v8 i wr) (fun _ v9 _ => n2 - (intOf v9).toNat)
        case atStart => exact ⟨0, Nat.zero_le _, rfl, Hst.out⟩
        case round =>
          obtain ⟨i, hi', rfl, hR⟩ := hrel
          by_cases hlt : i < n2
          · obtain ⟨a, c, now, rfl, he, hl, ho, hbr⟩ := hR
            obtain ⟨b, off, rfl, hat⟩ := H2.out.2.2.2 (by omega)
            obtain ⟨x, hx⟩ : ∃ x, x = hs.getD i 0 := ⟨_, rfl⟩
            have hc := ((hat.below hbr (hat.lt (by intro e; have := HL.out; rw [e] at this; simp at this; omega))) i (by rw [HL.out]; exact hlt))
            rw [← hx] at hc
            have hst := run_step he (by rw [HL.out]; exact hlt) hx
            have kc := Lib.hid (spec_HydraCut a now.length c now x n wr (Sl.of_own ho))
            unfold OrdOkPost at kc
            have Hbr := Lib.hid hbr
            cases hq : H.cutOkB now x n with
            | true =>
              rw [hq] at kc
              rw [if_pos hq] at hst
              obtain ⟨r, hr⟩ : ∃ r, r = H.cutRow now x n := ⟨_, rfl⟩
              have hrl : r.length ≤ 1000 := by rw [hr]; exact H.cutRow_len now x n
              rw [← hr] at kc hst
              have Hst2 := Lib.hid hst
              clear he hl ho hbr hat hx hst hq hr
              go_wp2_with fail
              refine (kc.out).mono ?_
              rintro ee w4 ⟨a4, c4, rfl, ho4, hb4⟩
              have HR := Lib.hid (show RunRel w n xs hs (.slice a4 r.length c4) (i + 1) w4 from ⟨a4, c4, r, rfl, Hst2.out, hrl, Joins.ownsRow_le ho4 Hbr.out.size, Hbr.out.trans (hb4.mono Hbr.out.size)⟩)
              clear ho4 hb4
              go_wp2_with fail
              go_roundw
              case rel => exact ⟨i + 1, by omega, by go_num, HR.out⟩
              case measure => simp [intOf]; omega
            | false =>
              rw [hq, H.cut_no hq] at kc
              rw [if_neg (by rw [hq]; simp)] at hst
              have hoB := run_none HV.out HN.out (by rw [HL.out]; exact h4) hst
              have Hfin := Lib.hid (fun (w4 : World) (hb4 : Below wr.heap.size wr w4) => show OrdOkPost w (H.runRow xs hs n) (H.runOkB xs hs n) (.returned (.tuple #[.slice (some ⟨w4.heap.size, 0, none⟩) 0 0, .bool false])) (w4.alloc (.cells #[] 3)) from by
                rw [hoB, H.run_no hoB]
                have hbb := Hbr.out.trans (hb4.mono Hbr.out.size)
                exact OrdOkPost.nil (World.ownsRow_lit w4 #[] 0 hbb.size (by simp [maxLen]) rfl) (hbb.alloc hbb.size _))
              clear he hl ho hbr hat hx hst hq hoB
              go_wp2_with fail
              refine (kc.out).mono ?_
              rintro ee w4 ⟨a4, c4, rfl, ho4, hb4⟩
              have Hf := Lib.hid (Hfin.out w4 hb4)
              clear ho4 hb4
              go_wp2_with fail
              go_ret2
              exact Hf.out
          · obtain rfl : i = n2 := by omega
            have Hf := Lib.hid (run_end hR (by rw [HL.out]; exact Nat.le_refl _) HV.out HN.out (by rw [HL.out]; exact h4))
            obtain ⟨a, c, now, rfl, _⟩ := hR
            go_wp2_with fail
            go_ret2
            exact Hf.out
      · have k2 := Lib.hid (l1In_no n 1 9 w (by omega))
        have hq : H.runOkB xs hs n = false := H.run_bad (fun h5 => hn h5.2.1)
        rw [H.run_no hq, hq]
        have Hn := Lib.hid hnil.out
        clear h h' hv hl2 hq hnil
        go_enter Try.func16, Try.ntmps16
        go_wp2_with fail
        refine (k1.out).mono ?_
        rintro ee w' ⟨rfl, rfl⟩
        go_wp2_with fail
        refine (k2.out).mono ?_
        rintro ee w' ⟨rfl, rfl⟩
        go_wp2_with fail
        go_ret2
        exact Hn.out
    · have hq : H.runOkB xs hs n = false := H.run_bad (fun h5 => h4 (by rw [← hl2]; exact h5.2.2))
      rw [H.run_no hq, hq]
      have Hn := Lib.hid hnil.out
      clear h h' hv hl2 hq hnil
      go_enter Try.func16, Try.ntmps16
      go_wp2_with fail
      refine (k1.out).mono ?_
      rintro ee w' ⟨rfl, rfl⟩
      go_wp2_with fail
      go_ret2
      exact Hn.out
  · have hq : H.runOkB xs hs n = false := H.run_bad (fun h5 => by rw [hv] at h5; exact absurd h5.1 (by simp))
    rw [hv] at k1
    rw [H.run_no hq, hq]
    have Hn := Lib.hid hnil.out
    clear h h' hv hl2 hq hnil
    go_enter Try.func16, Try.ntmps16
    go_wp2_with fail
    refine (k1.out).mono ?_
    rintro ee w' ⟨rfl, rfl⟩
    go_wp2_with fail
    go_ret2
    exact Hn.out

/-- What the loops of HydraFight keep. -/
def FightRel (w : World) (n : Int) (R : Int) (v : Value) (i : Nat) (wr : World) : Prop :=
  ∃ (a : Option Addr) (l c : Nat) (now : List Int), v = .slice a l c ∧ R = H.fightI n (401 - i) i now ∧ H.hvB now = true ∧ Sl wr a l c now ∧ Below w.heap.size w wr

theorem fight_go {n R : Int} {now : List Int} {i : Nat} (h : R = H.fightI n (401 - i) i now) (hi : i < 401) :
    R = if H.headsRow now = 0 then (i : Int) else if H.cutOkB now (H.headsRow now - 1) n = true then H.fightI n (401 - (i + 1)) (i + 1) (H.cutRow now (H.headsRow now - 1) n) else -1 := by
  rw [h, show 401 - i = (401 - (i + 1)) + 1 by omega, H.fightI]



end Go.Proofs.Ytlbaelehmoidpaa

/- HydCM -/
/- Every cut makes the ordinal less; with one branch in place of one each cut takes one number. -/
namespace Go.Proofs.Ytlbaelehmoidpaa
set_option maxRecDepth 100000
namespace H

theorem ordA_nat (f : H) : ∀ a : T, ordA f a = T.nat a (ordA f .z) := by
  induction f with
  | z => intro a; rw [ordA, ordA, T.nat_z]
  | c k r _ ihr =>
    intro a
    rw [ordA, ordA, T.z_nat, ihr, ihr (T.c 1 (ordA k .z) .z), T.nat_assoc]
theorem ord_c (k r : H) : ord (c k r) = T.nat (.c 1 (ord k) .z) (ord r) := by rw [ord, ordA, T.z_nat, ordA_nat]; rfl
theorem ord_rep (n : Nat) (k r : H) : ord (rep (n + 1) k r) = T.nat (.c ((n : Int) + 1) (ord k) .z) (ord r) := by
  induction n with
  | zero => rw [rep, rep, ord_c]; rfl
  | succ n ih =>
    rw [rep, ord_c, ih, ← T.nat_assoc, T.nat_eq _ _ _ _ (T.cmp_refl _), T.nat_z]
    congr 2
    push_cast; omega

theorem cut_lt (n : Nat) (hn : 1 ≤ n) : ∀ (f : H) (h : Int), 0 ≤ h → h < noughts f.body → f.body.length ≤ 900 → n ≤ 9 → (ord (cut n f h).1).cmp (ord f) = -1 := by
  intro f
  induction f with
  | z => intro h h0 h1; simp [body, noughts] at h1; omega
  | c k r ihk ihr =>
    intro h h0 h1 hl h9
    have hlb : (c k r).body.length = k.body.length + 1 + r.body.length := by rw [body_c, List.length_append, enc_len]
    rw [body_c, noughts_app] at h1
    have hpos : ∀ g : H, g.body.length ≤ 9000 → (ord g).Pos := fun g hg => T.nf_pos (ord_nf hg)
    by_cases hh : heads k ≤ h
    · rw [cut_past (.inr hh)]
      simp only []
      rw [ord_c, ord_c]
      have hcl := (cut_len n hn r (h - heads k)).1
      have : n * r.body.length ≤ 9 * r.body.length := Nat.mul_le_mul_right _ h9
      rw [T.nat_mono _ _ _ (hpos r (by omega)) (hpos _ (by omega))]
      exact ihr _ (by omega) (by unfold heads; push_cast at h1; omega) (by omega) h9
    · by_cases hz : k = z
      · subst hz
        rw [cut_head h0 (by omega)]
        simp only []
        rw [ord_c, T.nat_comm]
        have h2 := T.nat_self (s := ord r) (k := 1) (g := ord z) (p := .z) (by omega)
        have h3 := T.cmp_swap (T.nat (ord r) (.c 1 (ord z) .z)) (ord r)
        omega
      · rw [cut_in h0 (by omega) hz]
        have hn0 : heads k = (noughts k.body : Int) := by
          unfold heads
          rw [enc, noughts, if_neg (fun e => hz (cnt_zero (by omega)))]; simp
        have hi := ihk h h0 (by omega) (by omega) h9
        have hcl := (cut_len n hn k h).1
        have h8 : n * k.body.length ≤ 9 * k.body.length := Nat.mul_le_mul_right _ h9
        obtain ⟨k', hk'⟩ : ∃ k', k' = (cut n k h).1 := ⟨_, rfl⟩
        rw [← hk'] at hi hcl ⊢
        simp only []
        obtain ⟨m, rfl⟩ : ∃ m, n = m + 1 := ⟨n - 1, by omega⟩
        have key : ∀ q : Int, 1 ≤ q → (T.nat (.c q (ord k') .z) (ord r)).cmp (T.nat (.c 1 (ord k) .z) (ord r)) = -1 := by
          intro q hq
          have p1 : ∀ (q : Int) (a : T), 1 ≤ q → (T.c q a .z).Pos := fun q a h => ⟨h, trivial⟩
          rw [T.nat_comm _ (ord r), T.nat_comm _ (ord r), T.nat_mono _ _ _ (p1 1 _ (by omega)) (p1 q _ hq)]
          simp only [T.cmp, hi]
          rw [if_neg (by decide)]
        split
        · rw [ord_rep, ord_c]; exact key _ (by omega)
        · rw [ord_c, ord_c]; exact key 1 (by omega)

theorem cut_one : ∀ (f : H) (h : Int), 0 ≤ h → h < noughts f.body → (cut 1 f h).1.body.length + 1 = f.body.length := by
  intro f
  induction f with
  | z => intro h h0 h1; simp [body, noughts] at h1; omega
  | c k r ihk ihr =>
    intro h h0 h1
    rw [body_c, noughts_app] at h1
    have hl : (c k r).body.length = k.body.length + 1 + r.body.length := by rw [body_c, List.length_append, enc_len]
    by_cases hh : heads k ≤ h
    · rw [cut_past (.inr hh)]
      simp only []
      have h2 := ihr (h - heads k) (by omega) (by unfold heads; push_cast at h1; omega)
      rw [body_c, List.length_append, enc_len]
      omega
    · by_cases hz : k = z
      · subst hz
        rw [cut_head h0 (by omega), hl]
        simp [body]; omega
      · rw [cut_in h0 (by omega) hz]
        have hn0 : heads k = (noughts k.body : Int) := by
          unfold heads
          rw [enc, noughts, if_neg (fun e => hz (cnt_zero (by omega)))]; simp
        have hi := ihk h h0 (by omega)
        simp only []
        have e : rep 1 (cut 1 k h).1 r = c (cut 1 k h).1 r := rfl
        rw [e, ite_self, body_c, List.length_append, enc_len, hl]
        omega

/-- What the law of HydraCut says, on rows. -/
theorem cut_facts {xs : List Int} {h n : Int} (hq : cutOkB xs h n = true) : hvB xs = true ∧ (1 ≤ n ∧ n ≤ 9) ∧ hvB (cutRow xs h n) = true ∧
    (ordRowOk xs = true → ordRowOk (cutRow xs h n) = true → T.cmpRow (ordRow (cutRow xs h n)) (ordRow xs) = -1) ∧ (n = 1 → (cutRow xs h n).length + 1 = xs.length) := by
  have hv2 := cut_hv hq
  have hrow : cutRow xs h n = (cut n.toNat (of xs) h).1.enc := if_pos hq
  rw [cutOkB, Bool.and_eq_true, Bool.and_eq_true] at hq
  obtain ⟨⟨hv, hb⟩, h60'⟩ := hq
  have hb := of_decide_eq_true hb
  obtain ⟨f, rfl, h60, hof⟩ := hv_of hv
  have hfl := enc_len f
  have hh : h < noughts f.body := by
    have h2 := hb.2.2.2
    rw [headsRow, if_pos hv] at h2
    exact h2
  refine ⟨hv, ⟨hb.1, hb.2.1⟩, hv2, fun p q => ?_, fun h1 => ?_⟩
  · rw [ordRowOk, hv, Bool.true_and, hof] at p
    rw [ordRowOk, hv2, Bool.true_and] at q
    rw [ordRow, ordRow, if_pos hv, if_pos hv2, hof]
    rw [hrow, hof, of_enc] at q ⊢
    rw [T.fit, T.fit, if_pos p, if_pos q, T.cmpRow_val q p, T.of_enc, T.of_enc]
    exact cut_lt n.toNat (by omega) f h hb.2.2.1 hh (by omega) (by omega)
  · subst h1
    rw [hrow, hof, enc_len, enc_len, show (1 : Int).toNat = 1 from rfl, cut_one f h hb.2.2.1 hh]

theorem run_one : ∀ {hs xs ys : List Int}, runR 1 xs hs = some ys → ys.length + hs.length = xs.length := by
  intro hs
  induction hs with
  | nil => intro xs ys h; cases h; rfl
  | cons a r ih =>
    intro xs ys h
    rw [runR] at h
    by_cases hq : cutOkB xs a 1 = true
    · rw [if_pos hq] at h
      have h1 := ih h
      have h2 := (cut_facts hq).2.2.2.2 rfl
      simp only [List.length_cons]; omega
    · rw [if_neg hq] at h; cases h

/-- What the law of HydraRun says, on rows. -/
theorem run_facts {xs hs : List Int} {n : Int} (hq : runOkB xs hs n = true) (k : Nat) : hvB xs = true ∧ (1 ≤ n ∧ n ≤ 9) ∧ hvB (runRow xs hs n) = true ∧
    runRow (runRow xs (hs.take k) n) (hs.drop k) n = runRow xs hs n ∧ (n = 1 → (runRow xs hs n).length + hs.length = xs.length) := by
  have hrow : runRow xs hs n = (runR n xs hs).getD [] := if_pos hq
  rw [runOkB, Bool.and_eq_true, Bool.and_eq_true, Bool.and_eq_true] at hq
  obtain ⟨⟨⟨hv, hb⟩, h4⟩, hs0⟩ := hq
  have hb := of_decide_eq_true hb
  have h4 := of_decide_eq_true h4
  obtain ⟨ys, hy⟩ := Option.isSome_iff_exists.1 hs0
  rw [hrow, hy]
  have hv2 := run_hv hv hy
  refine ⟨hv, hb, hv2, ?_, fun h1 => by subst h1; exact run_one hy⟩
  have ha := run_app (n := n) (hs.take k) (hs.drop k) xs
  rw [List.take_append_drop, hy] at ha
  cases hm : runR n xs (hs.take k) with
  | none => rw [hm] at ha; cases ha
  | some zs =>
    rw [hm] at ha
    have hz := run_hv hv hm
    have e1 : runRow xs (hs.take k) n = zs := by
      rw [runRow, if_pos (by rw [run_ok hv hb (by rw [List.length_take]; omega), hm]; rfl), hm]; rfl
    have ha' : runR n zs (hs.drop k) = some ys := ha.symm
    rw [e1, runRow, if_pos (by rw [run_ok hz hb (by rw [List.length_drop]; omega), ha']; rfl), ha']
end H
end Go.Proofs.Ytlbaelehmoidpaa

/- LFnHydraRun -/
/- FnHydraRun: the walk of the law. -/
namespace Go.Proofs.Ytlbaelehmoidpaa
set_option maxRecDepth 100000
open Go.RowKit

theorem slh_take {w : World} {b off len cap k : Nat} {xs : List Int} (h : Sl w (some ⟨b, off, none⟩) len cap xs) (hk : k ≤ len) : Sl w (some ⟨b, off, none⟩) k cap (xs.take k) := by
  obtain ⟨h1, h2, h3, h4⟩ := h
  refine ⟨by rw [List.length_take]; omega, by omega, h3, fun hp => ?_⟩
  obtain ⟨b', o', h5, h6⟩ := h4 (by omega)
  cases h5
  refine ⟨b, off, rfl, fun j hj => ?_⟩
  rw [List.length_take] at hj
  have := h6 j (by omega)
  rw [this]
  simp [List.getD_eq_getElem?_getD, show j < k by omega]
theorem slh_drop {w : World} {b off len cap k : Nat} {xs : List Int} (h : Sl w (some ⟨b, off, none⟩) len cap xs) (_ : k ≤ len) : Sl w (some ⟨b, off + k, none⟩) (len - k) (cap - k) (xs.drop k) := by
  obtain ⟨h1, h2, h3, h4⟩ := h
  refine ⟨by rw [List.length_drop]; omega, by omega, by omega, fun hp => ?_⟩
  obtain ⟨b', o', h5, h6⟩ := h4 (by omega)
  cases h5
  exact ⟨b, off + k, rfl, h6.drop k⟩
theorem own_addr {w : World} {B n c : Nat} {a : Option Addr} {xs : List Value} (h : w.ownsRow B 3 1 (.slice a n c) n xs) : (a = none ∧ n = 0 ∧ c = 0) ∨ ∃ g, a = some ⟨g, 0, none⟩ := by
  rcases h.2 with ⟨h1, h2⟩ | ⟨g, _, _, h1, _⟩
  · simp at h1; exact .inl ⟨h1.1, h2, h1.2.2⟩
  · simp at h1; exact .inr ⟨g, h1.1⟩

set_option maxHeartbeats 4000000 in
theorem fnHydraRun_walk (a : Option Addr) (len cap : Nat) (w : World) (h : By w a len cap) :
    Calls Try.prog 4 #[.slice a len cap] w fun e w' => e = .returned (.bool true) ∧ Below w.heap.size w w' := by
  have hlm : len ≤ 9223372036854775807 := by have := h.1; have := h.2.1; unfold maxLen at this; omega
  by_cases hbig : 1048576 < len
  · clear h
    go_enter Try.func4, Try.ntmps4
    go_wp2_with fail
    go_ret
    exact ⟨rfl, Below.refl _ _⟩
  have k0 := Lib.hid (drawHydraRun_any a len cap w h)
  clear h
  go_enter Try.func4, Try.ntmps4
  go_wp2_with fail
  refine (k0.out).mono ?_
  rintro ee w1 ⟨xs, hs, q, g, n, c, a2, n2, c2, hn, hn2, hl2, rfl, ho, ho2, hl, hb0⟩
  have Hn := Lib.hid hn
  have Hn2 := Lib.hid hn2
  clear hn hn2
  have X_0 := Lib.hid (Sl.of_own ho)
  have Y_0 := Lib.hid (Sl.of_own ho2)
  have hY1 := (Sl.of_own ho2).2.1
  have hY2 := (Sl.of_own ho2).2.2.1
  unfold maxLen at hY2
  have Hadr := Lib.hid (own_addr ho2)
  have Ht0 := Lib.hid hb0
  have hws := hb0.size
  clear ho ho2 hb0
  cases hq : H.runOkB xs hs q with
  | false =>
    have Hq := Lib.hid hq
    clear hq
    have k1 := Lib.hid (impl_HydraRun (some ⟨g, 0, none⟩) n c xs a2 n2 c2 hs q w1 X_0.out Y_0.out)
    unfold OrdOkPost at k1
    rw [Hq.out, H.run_no Hq.out] at k1
    go_wp2_with fail
    refine (k1.out).mono ?_
    rintro ee w101 ⟨aA, cA, rfl, ho, hb1⟩
    have Ht1 := Lib.hid (Ht0.out.trans (hb1.mono (by have h1 := Ht0.out.size; omega)))
    have X_1 := Lib.hid (X_0.out.below hb1)
    have Y_1 := Lib.hid (Y_0.out.below hb1)
    have A_1 := Lib.hid (Sl.of_own ho)
    clear hb1 ho
    have k2 := Lib.hid (spec_HydraRun (some ⟨g, 0, none⟩) n c xs a2 n2 c2 hs q w101 X_1.out Y_1.out)
    unfold OrdOkPost at k2
    rw [Hq.out, H.run_no Hq.out] at k2
    go_wp2_with fail
    refine (k2.out).mono ?_
    rintro ee w102 ⟨aC, cC, rfl, ho, hb2⟩
    have Ht2 := Lib.hid (Ht1.out.trans (hb2.mono (by have h1 := Ht1.out.size; omega)))
    have X_2 := Lib.hid (X_1.out.below hb2)
    have Y_2 := Lib.hid (Y_1.out.below hb2)
    have A_2 := Lib.hid (A_1.out.below hb2)
    have C_2 := Lib.hid (Sl.of_own ho)
    clear hb2 ho
    have k3 := Lib.hid (sameInts_any aA aC 0 cA 0 cC ([] : List Int) ([] : List Int) w102 (by omega) A_2.out C_2.out)
    rw [eqB_refl] at k3
    go_wp2_with fail
    refine (k3.out).mono ?_
    rintro ee w103 ⟨rfl, hb3⟩
    have Ht3 := Lib.hid (Ht2.out.trans (hb3.mono (by have h1 := Ht2.out.size; omega)))
    have X_3 := Lib.hid (X_2.out.below hb3)
    have Y_3 := Lib.hid (Y_2.out.below hb3)
    have A_3 := Lib.hid (A_2.out.below hb3)
    have C_3 := Lib.hid (C_2.out.below hb3)
    clear hb3
    have k4 := Lib.hid (alive_any w103)
    go_wp2_with fail
    refine (k4.out).mono ?_
    rintro ee w104 ⟨rfl, hb4⟩
    have Ht4 := Lib.hid (Ht3.out.trans (hb4.mono (by have h1 := Ht3.out.size; omega)))
    have X_4 := Lib.hid (X_3.out.below hb4)
    have Y_4 := Lib.hid (Y_3.out.below hb4)
    have A_4 := Lib.hid (A_3.out.below hb4)
    have C_4 := Lib.hid (C_3.out.below hb4)
    clear hb4
    go_wp2_with fail
    go_ret
    exact ⟨rfl, Ht4.out⟩
  | true =>
    obtain ⟨k, hk⟩ : ∃ k, k = n2 / 2 := ⟨_, rfl⟩
    obtain ⟨hv, hnb, hv2, hpart, hone⟩ := H.run_facts hq k
    obtain ⟨r, hr⟩ : ∃ r, r = H.runRow xs hs q := ⟨_, rfl⟩
    rw [← hr] at hv2 hpart hone
    obtain ⟨m, hm⟩ : ∃ m, m = H.runRow xs (hs.take k) q := ⟨_, rfl⟩
    rw [← hm] at hpart
    have hml : m.length ≤ 1000 := by rw [hm]; exact H.run_len _ _ _
    obtain ⟨o1, ho1⟩ : ∃ o, o = H.runOkB xs (hs.take k) q := ⟨_, rfl⟩
    obtain ⟨o2, ho2⟩ : ∃ o, o = H.runOkB m (hs.drop k) q := ⟨_, rfl⟩
    have hrl := H.hv_len hv2
    have hxl := H.hv_len hv
    have Hq := Lib.hid hq
    have Hr := Lib.hid hr
    have Hm := Lib.hid hm
    have Ho1 := Lib.hid ho1
    have Ho2 := Lib.hid ho2
    have Hv2 := Lib.hid hv2
    have Hp := Lib.hid hpart
    have Hone := Lib.hid (show q = 1 → ((r.length : Nat) : Int) = (n : Int) - (n2 : Int) by intro h; have := hone h; have := Hn.out; have := Hn2.out; omega)
    have hq1 := hnb.1
    have hr60 : r.length ≤ 60 := hrl.2
    have hn60 : n ≤ 60 := by have := Hn.out; omega
    have htd : ((n2 : Nat) : Int).tdiv 2 = (k : Int) := by rw [Int.tdiv_eq_ediv_of_nonneg (by omega)]; omega
    have hk2 : k ≤ n2 := by omega
    have hkz : n2 ≠ 0 → ¬ (c2 = k) := by omega
    have Hkz := Lib.hid hkz
    have Hk := Lib.hid hk
    clear hq hr hm ho1 ho2 hv2 hpart hone hnb hrl hxl hkz hk
    have k5 := Lib.hid (impl_HydraRun (some ⟨g, 0, none⟩) n c xs a2 n2 c2 hs q w1 X_0.out Y_0.out)
    unfold OrdOkPost at k5
    rw [Hq.out, ← Hr.out] at k5
    go_wp2_with fail
    refine (k5.out).mono ?_
    rintro ee w105 ⟨aA, cA, rfl, ho, hb5⟩
    have Ht5 := Lib.hid (Ht0.out.trans (hb5.mono (by have h1 := Ht0.out.size; omega)))
    have X_5 := Lib.hid (X_0.out.below hb5)
    have Y_5 := Lib.hid (Y_0.out.below hb5)
    have A_5 := Lib.hid (Sl.of_own ho)
    clear hb5 ho
    have k6 := Lib.hid (spec_HydraRun (some ⟨g, 0, none⟩) n c xs a2 n2 c2 hs q w105 X_5.out Y_5.out)
    unfold OrdOkPost at k6
    rw [Hq.out, ← Hr.out] at k6
    go_wp2_with fail
    refine (k6.out).mono ?_
    rintro ee w106 ⟨aC, cC, rfl, ho, hb6⟩
    have Ht6 := Lib.hid (Ht5.out.trans (hb6.mono (by have h1 := Ht5.out.size; omega)))
    have X_6 := Lib.hid (X_5.out.below hb6)
    have Y_6 := Lib.hid (Y_5.out.below hb6)
    have A_6 := Lib.hid (A_5.out.below hb6)
    have C_6 := Lib.hid (Sl.of_own ho)
    clear hb6 ho
    have k7 := Lib.hid (sameInts_any aA aC r.length cA r.length cC r r w106 (by omega) A_6.out C_6.out)
    rw [eqB_refl] at k7
    go_wp2_with fail
    refine (k7.out).mono ?_
    rintro ee w107 ⟨rfl, hb7⟩
    have Ht7 := Lib.hid (Ht6.out.trans (hb7.mono (by have h1 := Ht6.out.size; omega)))
    have X_7 := Lib.hid (X_6.out.below hb7)
    have Y_7 := Lib.hid (Y_6.out.below hb7)
    have A_7 := Lib.hid (A_6.out.below hb7)
    have C_7 := Lib.hid (C_6.out.below hb7)
    clear hb7
    rcases Hadr.out with ⟨rfl, rfl, rfl⟩ | ⟨g2, rfl⟩
    · obtain rfl : k = 0 := by omega
      have S1 := Lib.hid (show Sl _ none 0 0 (hs.take 0) from by have h0 := Y_7.out; have h1 : hs = [] := List.eq_nil_of_length_eq_zero h0.1; rw [h1] at h0 ⊢; simpa using h0)
      have k8 := Lib.hid (impl_HydraRun (some ⟨g, 0, none⟩) n c xs none 0 0 (hs.take 0) q w107 X_7.out S1.out)
      unfold OrdOkPost at k8
      rw [← Hm.out, ← Ho1.out] at k8
      go_wp2_with fail
      refine (k8.out).mono ?_
      rintro ee w108 ⟨aM, cM, rfl, ho, hb8⟩
      have Ht8 := Lib.hid (Ht7.out.trans (hb8.mono (by have h1 := Ht7.out.size; omega)))
      have X_8 := Lib.hid (X_7.out.below hb8)
      have Y_8 := Lib.hid (Y_7.out.below hb8)
      have A_8 := Lib.hid (A_7.out.below hb8)
      have C_8 := Lib.hid (C_7.out.below hb8)
      have M_8 := Lib.hid (Sl.of_own ho)
      clear hb8 ho
      have S2 := Lib.hid (show Sl _ none 0 0 (hs.drop 0) from by simpa using Y_8.out)
      have k9 := Lib.hid (impl_HydraRun aM m.length cM m none 0 0 (hs.drop 0) q w108 M_8.out S2.out)
      unfold OrdOkPost at k9
      rw [Hp.out, ← Ho2.out] at k9
      go_wp2_with fail
      refine (k9.out).mono ?_
      rintro ee w109 ⟨aR, cR, rfl, ho, hb9⟩
      have Ht9 := Lib.hid (Ht8.out.trans (hb9.mono (by have h1 := Ht8.out.size; omega)))
      have X_9 := Lib.hid (X_8.out.below hb9)
      have Y_9 := Lib.hid (Y_8.out.below hb9)
      have A_9 := Lib.hid (A_8.out.below hb9)
      have C_9 := Lib.hid (C_8.out.below hb9)
      have M_9 := Lib.hid (M_8.out.below hb9)
      have R_9 := Lib.hid (Sl.of_own ho)
      clear hb9 ho
      have k10 := Lib.hid (impl_HydraValid_b aA r.length cA r w109 A_9.out)
      rw [Hv2.out] at k10
      go_wp2_with fail
      refine (k10.out).mono ?_
      rintro ee w110 ⟨rfl, hb10⟩
      have Ht10 := Lib.hid (Ht9.out.trans (hb10.mono (by have h1 := Ht9.out.size; omega)))
      have X_10 := Lib.hid (X_9.out.below hb10)
      have Y_10 := Lib.hid (Y_9.out.below hb10)
      have A_10 := Lib.hid (A_9.out.below hb10)
      have C_10 := Lib.hid (C_9.out.below hb10)
      have M_10 := Lib.hid (M_9.out.below hb10)
      have R_10 := Lib.hid (R_9.out.below hb10)
      clear hb10
      have k11 := Lib.hid (sameInts_any aR aA r.length cR r.length cA r r w110 (by omega) R_10.out A_10.out)
      rw [eqB_refl] at k11
      go_wp2_with fail
      refine (k11.out).mono ?_
      rintro ee w111 ⟨rfl, hb11⟩
      have Ht11 := Lib.hid (Ht10.out.trans (hb11.mono (by have h1 := Ht10.out.size; omega)))
      have X_11 := Lib.hid (X_10.out.below hb11)
      have Y_11 := Lib.hid (Y_10.out.below hb11)
      have A_11 := Lib.hid (A_10.out.below hb11)
      have C_11 := Lib.hid (C_10.out.below hb11)
      have M_11 := Lib.hid (M_10.out.below hb11)
      have R_11 := Lib.hid (R_10.out.below hb11)
      clear hb11
      by_cases hq2 : 1 < q
      · go_wp2_with fail
        go_ret
        exact ⟨rfl, Ht11.out⟩
      · have hlen := Hone.out (by omega)
        have hle : (((r.length : Nat) : Int) == (n : Int)) = true := by simp only [beq_iff_eq]; omega
        have Hle := Lib.hid hle
        clear hlen
        go_wp2_with fail
        go_ret
        exact ⟨rfl, Ht11.out⟩
    · by_cases hz : n2 = 0
      · subst hz
        obtain rfl : k = 0 := by omega
        have S1 := Lib.hid (show Sl _ (some ⟨g2, 0, none⟩) 0 c2 (hs.take 0) from by have h0 := Y_7.out; have h1 : hs = [] := List.eq_nil_of_length_eq_zero h0.1; rw [h1] at h0 ⊢; simpa using h0)
        have k12 := Lib.hid (impl_HydraRun (some ⟨g, 0, none⟩) n c xs (some ⟨g2, 0, none⟩) 0 c2 (hs.take 0) q w107 X_7.out S1.out)
        unfold OrdOkPost at k12
        rw [← Hm.out, ← Ho1.out] at k12
        go_wp2_with fail
        refine (k12.out).mono ?_
        rintro ee w112 ⟨aM, cM, rfl, ho, hb12⟩
        have Ht12 := Lib.hid (Ht7.out.trans (hb12.mono (by have h1 := Ht7.out.size; omega)))
        have X_12 := Lib.hid (X_7.out.below hb12)
        have Y_12 := Lib.hid (Y_7.out.below hb12)
        have A_12 := Lib.hid (A_7.out.below hb12)
        have C_12 := Lib.hid (C_7.out.below hb12)
        have M_12 := Lib.hid (Sl.of_own ho)
        clear hb12 ho
        have S2 := Lib.hid (show Sl _ (some ⟨g2, 0, none⟩) 0 c2 (hs.drop 0) from by simpa using Y_12.out)
        have k13 := Lib.hid (impl_HydraRun aM m.length cM m (some ⟨g2, 0, none⟩) 0 c2 (hs.drop 0) q w112 M_12.out S2.out)
        unfold OrdOkPost at k13
        rw [Hp.out, ← Ho2.out] at k13
        go_wp2_with fail
        refine (k13.out).mono ?_
        rintro ee w113 ⟨aR, cR, rfl, ho, hb13⟩
        have Ht13 := Lib.hid (Ht12.out.trans (hb13.mono (by have h1 := Ht12.out.size; omega)))
        have X_13 := Lib.hid (X_12.out.below hb13)
        have Y_13 := Lib.hid (Y_12.out.below hb13)
        have A_13 := Lib.hid (A_12.out.below hb13)
        have C_13 := Lib.hid (C_12.out.below hb13)
        have M_13 := Lib.hid (M_12.out.below hb13)
        have R_13 := Lib.hid (Sl.of_own ho)
        clear hb13 ho
        have k14 := Lib.hid (impl_HydraValid_b aA r.length cA r w113 A_13.out)
        rw [Hv2.out] at k14
        go_wp2_with fail
        refine (k14.out).mono ?_
        rintro ee w114 ⟨rfl, hb14⟩
        have Ht14 := Lib.hid (Ht13.out.trans (hb14.mono (by have h1 := Ht13.out.size; omega)))
        have X_14 := Lib.hid (X_13.out.below hb14)
        have Y_14 := Lib.hid (Y_13.out.below hb14)
        have A_14 := Lib.hid (A_13.out.below hb14)
        have C_14 := Lib.hid (C_13.out.below hb14)
        have M_14 := Lib.hid (M_13.out.below hb14)
        have R_14 := Lib.hid (R_13.out.below hb14)
        clear hb14
        have k15 := Lib.hid (sameInts_any aR aA r.length cR r.length cA r r w114 (by omega) R_14.out A_14.out)
        rw [eqB_refl] at k15
        go_wp2_with fail
        refine (k15.out).mono ?_
        rintro ee w115 ⟨rfl, hb15⟩
        have Ht15 := Lib.hid (Ht14.out.trans (hb15.mono (by have h1 := Ht14.out.size; omega)))
        have X_15 := Lib.hid (X_14.out.below hb15)
        have Y_15 := Lib.hid (Y_14.out.below hb15)
        have A_15 := Lib.hid (A_14.out.below hb15)
        have C_15 := Lib.hid (C_14.out.below hb15)
        have M_15 := Lib.hid (M_14.out.below hb15)
        have R_15 := Lib.hid (R_14.out.below hb15)
        clear hb15
        by_cases hq2 : 1 < q
        · go_wp2_with fail
          go_ret
          exact ⟨rfl, Ht15.out⟩
        · have hlen := Hone.out (by omega)
          have hle : (((r.length : Nat) : Int) == (n : Int)) = true := by simp only [beq_iff_eq]; omega
          have Hle := Lib.hid hle
          clear hlen
          go_wp2_with fail
          go_ret
          exact ⟨rfl, Ht15.out⟩
      · have hck := Hkz.out hz
        have hk3 : (k : Int) ≤ (n2 : Int) := by omega
        have hk4 : (k : Int) ≤ (c2 : Int) := by omega
        have S1 := Lib.hid (slh_take Y_7.out hk2)
        have k16 := Lib.hid (impl_HydraRun (some ⟨g, 0, none⟩) n c xs (some ⟨g2, 0, none⟩) k c2 (hs.take k) q w107 X_7.out S1.out)
        unfold OrdOkPost at k16
        rw [← Hm.out, ← Ho1.out] at k16
        go_wp2_with fail
        refine (k16.out).mono ?_
        rintro ee w116 ⟨aM, cM, rfl, ho, hb16⟩
        have Ht16 := Lib.hid (Ht7.out.trans (hb16.mono (by have h1 := Ht7.out.size; omega)))
        have X_16 := Lib.hid (X_7.out.below hb16)
        have Y_16 := Lib.hid (Y_7.out.below hb16)
        have A_16 := Lib.hid (A_7.out.below hb16)
        have C_16 := Lib.hid (C_7.out.below hb16)
        have M_16 := Lib.hid (Sl.of_own ho)
        clear hb16 ho
        have S2 := Lib.hid (show Sl _ (some ⟨g2, k, none⟩) (n2 - k) (c2 - k) (hs.drop k) from by simpa using slh_drop Y_16.out hk2)
        have k17 := Lib.hid (impl_HydraRun aM m.length cM m (some ⟨g2, k, none⟩) (n2 - k) (c2 - k) (hs.drop k) q w116 M_16.out S2.out)
        unfold OrdOkPost at k17
        rw [Hp.out, ← Ho2.out] at k17
        go_wp2_with fail
        refine (k17.out).mono ?_
        rintro ee w117 ⟨aR, cR, rfl, ho, hb17⟩
        have Ht17 := Lib.hid (Ht16.out.trans (hb17.mono (by have h1 := Ht16.out.size; omega)))
        have X_17 := Lib.hid (X_16.out.below hb17)
        have Y_17 := Lib.hid (Y_16.out.below hb17)
        have A_17 := Lib.hid (A_16.out.below hb17)
        have C_17 := Lib.hid (C_16.out.below hb17)
        have M_17 := Lib.hid (M_16.out.below hb17)
        have R_17 := Lib.hid (Sl.of_own ho)
        clear hb17 ho
        have k18 := Lib.hid (impl_HydraValid_b aA r.length cA r w117 A_17.out)
        rw [Hv2.out] at k18
        go_wp2_with fail
        refine (k18.out).mono ?_
        rintro ee w118 ⟨rfl, hb18⟩
        have Ht18 := Lib.hid (Ht17.out.trans (hb18.mono (by have h1 := Ht17.out.size; omega)))
        have X_18 := Lib.hid (X_17.out.below hb18)
        have Y_18 := Lib.hid (Y_17.out.below hb18)
        have A_18 := Lib.hid (A_17.out.below hb18)
        have C_18 := Lib.hid (C_17.out.below hb18)
        have M_18 := Lib.hid (M_17.out.below hb18)
        have R_18 := Lib.hid (R_17.out.below hb18)
        clear hb18
        have k19 := Lib.hid (sameInts_any aR aA r.length cR r.length cA r r w118 (by omega) R_18.out A_18.out)
        rw [eqB_refl] at k19
        go_wp2_with fail
        refine (k19.out).mono ?_
        rintro ee w119 ⟨rfl, hb19⟩
        have Ht19 := Lib.hid (Ht18.out.trans (hb19.mono (by have h1 := Ht18.out.size; omega)))
        have X_19 := Lib.hid (X_18.out.below hb19)
        have Y_19 := Lib.hid (Y_18.out.below hb19)
        have A_19 := Lib.hid (A_18.out.below hb19)
        have C_19 := Lib.hid (C_18.out.below hb19)
        have M_19 := Lib.hid (M_18.out.below hb19)
        have R_19 := Lib.hid (R_18.out.below hb19)
        clear hb19
        by_cases hq2 : 1 < q
        · go_wp2_with fail
          go_ret
          exact ⟨rfl, Ht19.out⟩
        · have hlen := Hone.out (by omega)
          have hle : (((r.length : Nat) : Int) == (n : Int) - (n2 : Int)) = true := by simp only [beq_iff_eq]; omega
          have Hle := Lib.hid hle
          clear hlen
          go_wp2_with fail
          go_ret
          exact ⟨rfl, Ht19.out⟩

end Go.Proofs.Ytlbaelehmoidpaa
