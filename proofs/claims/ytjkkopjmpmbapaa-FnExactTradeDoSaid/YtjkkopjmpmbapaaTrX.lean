/- Marks of one rule, in the exact laws. -/
import Derived.Test.YtjkkopjmpmbapaaTrT
namespace Go.Proofs.Ytjkkopjmpmbapaa
set_option maxRecDepth 100000
open Go.RowKit

set_option maxHeartbeats 1000000 in
theorem markTrade_any (B U g1 g2 n1 n2 : Nat) (t : Tr) (k0 : Int) (w : World) (hn1 : n1 ≤ 1048576) (hn2 : n2 ≤ 1048576) (hk0 : 0 ≤ k0) (hk1 : k0 ≤ 10000000) (hU : U ≤ w.heap.size) (hB : B ≤ U) (h12 : g1 < g2) (h2U : g2 < U)
    (o1 : w.ownsRow B 3 1 (.slice (some ⟨g1, 0, none⟩) n1 n1) n1 (ints t.take)) (o2 : w.ownsRow B 3 1 (.slice (some ⟨g2, 0, none⟩) n2 n2) n2 (ints t.give)) :
    Calls Try.prog 30 #[.agg #[.slice (some ⟨g1, 0, none⟩) n1 n1, .slice (some ⟨g2, 0, none⟩) n2 n2], .int .i64 k0] w fun e w' => e = .returned (.int .i64 (k0 + n1 + n2)) ∧ Mid B U w w' := by
  obtain ⟨W, hW, hBx, hbW, hsW⟩ := box_two w (.slice (some ⟨g1, 0, none⟩) n1 n1) (.slice (some ⟨g2, 0, none⟩) n2 n2) 27
  have hc0 := hBx.c0
  have km := Lib.hid (markIntS_any B (some ⟨g1, 0, none⟩) n1 n1 t.take k0 W (by omega) hk0 (by omega) (ownsRow_below' o1 hbW))
  have O2 := Lib.hid (ownsRow_below' o2 hbW)
  have HBx := Lib.hid hBx
  have HM := Lib.hid (show Mid B U w W from ⟨hbW.mono (by omega), fun k _ h2 => hbW.block k h2⟩)
  have HsW := Lib.hid hsW
  have HU := Lib.hid hU
  have H12 := Lib.hid h12
  have H2U := Lib.hid h2U
  clear hBx hbW hsW o1 o2 hU hB h12 h2U
  go_enter Try.func30, Try.ntmps30
  go_wp2_with fail
  refine (km.out).mono ?_
  rintro ee w2 ⟨rfl, _, hb2, hg2⟩
  have hl := HU.out
  have hl2 := H2U.out
  have hl12 := H12.out
  have hlW := HsW.out
  have hB2 : Blk w2 w.heap.size _ _ _ := (hg2.block w.heap.size (by omega) (by simp [Value.ownBlock]; omega)).trans HBx.out
  have y1 := hB2.c1
  have km2 := Lib.hid (markIntS_any B (some ⟨g2, 0, none⟩) n2 n2 t.give (k0 + n1) w2 (by omega) (by omega) (by omega) (O2.out.kept hg2 (.inr (by simp [Value.ownBlock]; omega))))
  have HM2 := Lib.hid (HM.out.trans (Mid.of_grown hb2 hg2 (Nat.lt_trans hl12 hl2)))
  clear hl hl12 hlW hB2 hb2 hg2 hl2
  go_wp2_with fail
  refine (km2.out).mono ?_
  rintro ee w3 ⟨rfl, _, hb3, hg3⟩
  have HM3 := Lib.hid (HM2.out.trans (Mid.of_grown hb3 hg3 H2U.out))
  clear hb3 hg3
  go_wp2_with fail
  go_ret
  exact ⟨rfl, HM3.out⟩

end Go.Proofs.Ytjkkopjmpmbapaa
