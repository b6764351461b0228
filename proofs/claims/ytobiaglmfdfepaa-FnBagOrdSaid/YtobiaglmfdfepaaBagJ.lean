/- The program's sums with nil in front. -/
import Derived.Test.YtobiaglmfdfepaaBagI
namespace Go.Proofs.Ytobiaglmfdfepaa
set_option maxRecDepth 100000
open Go.RowKit

set_option maxHeartbeats 4000000 in
theorem addedTermsN_any (g2 : Nat) (m : Int) (e : T) (ds : List Value) (w : World) (h2 : Tz w g2 1 1 (.c m e .z) ds) :
    Calls Try.prog 60 #[.slice none 0 0, .slice (some ⟨g2, 0, none⟩) 1 1] w (TzPost w (.c m e .z)) := by
  obtain ⟨be, oe, ce, ds', hds, hate, hce, hcm, htr⟩ := h2.2.2.2.1
  have y0 : w.cell? ⟨g2, 0, none⟩ = some (.int .i64 m) := by rw [h2.2.2.2.2.2 0 (by omega), hds]; rfl
  have y1 : w.cell? ⟨g2, 1, none⟩ = some (.slice (some ⟨be, oe, none⟩) e.enc.length ce) := by rw [h2.2.2.2.2.2 1 (by omega), hds]; rfl
  have H2 := Lib.hid h2
  have Hate := Lib.hid hate
  clear h2 hate hds htr
  go_enter Try.func60, Try.ntmps60
  go_upto_block 0 with fail
  obtain ⟨wb, hwb⟩ : ∃ wb, wb = w.alloc (.cells #[.int .i64 m, .slice (some ⟨be, oe, none⟩) e.enc.length ce] 53) := ⟨_, rfl⟩
  rw [← hwb]
  have hBel : Below w.heap.size w wb := by rw [hwb]; exact (Below.refl _ _).alloc (Nat.le_refl _) _
  have hB1 : w.heap.size < wb.heap.size := by rw [hwb, World.size_alloc]; omega
  have hz0 : wb.cell? ⟨w.heap.size, 0, none⟩ = some (.int .i64 m) := by rw [hwb, Joins.cell_alloc_mark_at _ _ _ _ _ _ rfl]; rfl
  have hz1 : wb.cell? ⟨w.heap.size, 1, none⟩ = some (.slice (some ⟨be, oe, none⟩) e.enc.length ce) := by rw [hwb, Joins.cell_alloc_mark_at _ _ _ _ _ _ rfl]; rfl
  have HBel := Lib.hid hBel
  clear hwb hBel y0 y1
  go_cut [6] (fun v6 wx => v6 = .int .i64 (0 : Nat) ∧ Below wb.heap.size wb wx)
  case first =>
    go_wp2_with fail
    go_loopw [6] (fun v6 wr => v6 = .int .i64 (0 : Nat) ∧ wb = wr) (fun _ _ => 0)
    case atStart => exact ⟨rfl, rfl⟩
    case round =>
      obtain ⟨rfl, rfl⟩ := hrel
      go_wp2_with fail
      go_quiet (fail)
      go_wp2_with fail
      go_meet
      exact ⟨rfl, Joins.below_draws _ _ _⟩
  case rest =>
    obtain ⟨rfl, hbz⟩ := hcut
    go_step
    obtain ⟨wz, rfl⟩ : ∃ wz : World, wz = wc := ⟨_, rfl⟩
    have Hbz := Lib.hid hbz
    have Hbw := Lib.hid (HBel.out.trans (hbz.mono HBel.out.size))
    have yz1 := (hbz.cell (p := ⟨w.heap.size, 1, none⟩) hB1).trans hz1
    have yz0 := (hbz.cell (p := ⟨w.heap.size, 0, none⟩) hB1).trans hz0
    clear hbz hz0 hz1
    go_upto_region 7 with fail
    go_cut [44] (fun v44 wx => v44 = .bool false ∧ Below wz.heap.size wz wx)
    case first =>
      go_wp2_with fail
      go_quiet (fail)
      go_wp2_with fail
      go_meet
      exact ⟨rfl, Joins.below_draws _ _ _⟩
    case rest =>
      obtain ⟨rfl, hbt⟩ := hcut
      go_step
      obtain ⟨wq, rfl⟩ : ∃ wq : World, wq = wc := ⟨_, rfl⟩
      have hBz : w.heap.size < wz.heap.size := by have := Hbz.out.size; omega
      have hx1 := (hbt.cell (p := ⟨w.heap.size, 1, none⟩) hBz).trans yz1
      have hx0 := (hbt.cell (p := ⟨w.heap.size, 0, none⟩) hBz).trans yz0
      have Hbx := Lib.hid (Hbw.out.trans (hbt.mono Hbw.out.size))
      have hbs := Hbx.out.size
      have hsx : w.heap.size < wq.heap.size := by have := hbt.size; omega
      clear hbt yz0 yz1
      have HBW := Lib.hid ((((Hbx.out.alloc hbs (.cells #[.int .i64 m, .slice (some ⟨be, oe, none⟩) e.enc.length ce] 53)).alloc (by simp; omega) (.cells #[.slice none 0 0, .slice (some ⟨wq.heap.size, 0, none⟩) 1 1, .slice (some ⟨g2, 0, none⟩) (0) (0)] 50)).drew))
      have HBQ := Lib.hid ((((Below.refl wq.heap.size wq).alloc (Nat.le_refl _) (.cells #[.int .i64 m, .slice (some ⟨be, oe, none⟩) e.enc.length ce] 53)).alloc (by simp) (.cells #[.slice none 0 0, .slice (some ⟨wq.heap.size, 0, none⟩) 1 1, .slice (some ⟨g2, 0, none⟩) (0) (0)] 50)).drew)
      have HC := Lib.hid (cat_cells wq m (.slice (some ⟨be, oe, none⟩) e.enc.length ce) (.slice none 0 0) (.slice (some ⟨wq.heap.size, 0, none⟩) 1 1) (.slice (some ⟨g2, 0, none⟩) (0) (0)) 53 50 rfl)
      have HR3 := Lib.hid (Rd.below (l := []) (n := 0) (c := 0) (a := some ⟨g2, 0, none⟩) (w := w) ⟨rfl, (fun u hu => by cases hu), .inr ⟨g2, 0, rfl, fun j u hj => by simp at hj⟩⟩ HBW.out)
      have HR1 := Lib.hid (Rd.below (l := []) (n := 0) (c := 0) (a := none) (w := w) ⟨rfl, (fun u hu => by cases hu), .inl ⟨rfl, rfl, rfl⟩⟩ HBW.out)
      go_wp2_with fail
      go_region_held3 (fun w' => w'.cell? ⟨w.heap.size, 0, none⟩ = some (.int .i64 m) ∧ w'.cell? ⟨w.heap.size, 1, none⟩ = some (.slice (some ⟨be, oe, none⟩) e.enc.length ce)) (first | go_keep | exact ⟨kS0, kS1⟩)
        ((first
          | (go_at_call 90; (refine (concat3_any (wq.heap.size + 1) 3 none (some ⟨wq.heap.size, 0, none⟩) (some ⟨g2, 0, none⟩) 0 0 1 1 (0) (0) [] [.int .i64 m, .slice (some ⟨be, oe, none⟩) e.enc.length ce] ([]) _ HC.out.1 HC.out.2.1 HC.out.2.2.1 HR1.out HC.out.2.2.2 HR3.out (by omega) (by omega) (by omega)).mono ?_); rintro ee w5 ⟨a5, c5, rfl, ho5, hb5⟩; have kS0 := (hb5.cell (p := ⟨w.heap.size, 0, none⟩) (by simp; omega)).trans ((HBQ.out.cell (p := ⟨w.heap.size, 0, none⟩) hsx).trans hx0); have kS1 := (hb5.cell (p := ⟨w.heap.size, 1, none⟩) (by simp; omega)).trans ((HBQ.out.cell (p := ⟨w.heap.size, 1, none⟩) hsx).trans hx1))))
      have hfin : TzPost w (.c m e .z) (.returned (.slice a5 (0 + 1 + 0) c5)) w5 := by
        have hbt := HBW.out.trans (hb5.mono HBW.out.size)
        obtain ⟨g5, c5', hform⟩ := Joins.ownsRow_form ho5 (by omega)
        simp at hform
        obtain ⟨rfl, rfl⟩ := hform
        refine ⟨g5, _, c5, _, rfl, Tz.of_own' ho5 ?_ rfl, hbt⟩
        exact TC.below (t := .c m e .z) ⟨be, oe, ce, [], rfl, Hate.out, hce, hcm, rfl⟩ hbt
      have Hfin := Lib.hid hfin
      clear hfin ho5 hb5 kS0 kS1
      go_wp2_with fail
      go_ret
      exact Hfin.out

end Go.Proofs.Ytobiaglmfdfepaa
