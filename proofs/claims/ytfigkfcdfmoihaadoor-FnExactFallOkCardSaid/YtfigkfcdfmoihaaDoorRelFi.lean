/- FallOk by the program: a range over a set inside a loop, with a return out of it. -/
import Derived.Test.YtfigkfcdfmoihaaDoorRelFo
import Derived.Test.YtfigkfcdfmoihaaDoorRelGk
import Derived.Test.YtfigkfcdfmoihaaDoorRegS
namespace Go.Proofs.YtfigkfcdfmoihaaDoor
set_option maxRecDepth 100000
open Go.RowKit Go.Shelf

attribute [local go_sem] Oper.semAt_some

theorem falls_out {W : World} {n : Nat} {tmps : Array Value} {c4 : Nat} {x : Bool} (ht4 : tmps[4]?.getD undef = .pointer (some ⟨c4, 0, none⟩)) (h4 : W.cell? ⟨c4, 0, none⟩ = some (.bool x)) {R : Ending → World → Prop} (hR : R (.returned (.bool x)) W) :
    LeavesInM Fence.wide n Tryd.prog Tryd.f15 tmps R [] .returning W := by
  refine ⟨_, ?_, hR⟩
  simp [results, Tryd.f15, go_sem, ht4, h4]

def FaTmps (a0 : Option Addr) (n0 c0 : Nat) (a1 : Option Addr) (n1 c1 : Nat) (B p : Nat) (u : Nat → Value) : Array Value :=
  #[.slice a0 n0 c0, .slice a1 n1 c1, undef, .pointer (some ⟨B, 0, none⟩), .pointer (some ⟨B + 1, 0, none⟩), u 5, u 6, u 7, u 8, u 9, u 10, u 11, u 12, u 13, u 14, u 15, u 16, u 17, u 18, u 19, u 20, u 21, u 22, .slice a0 n0 c0, .int .i64 n0, .int .i64 p, u 26, u 27, u 28, u 29, u 30, u 31, u 32, u 33, u 34, u 35, u 36, u 37, u 38, u 39, u 40, u 41, u 42, u 43]
/-- What lies between two rounds. -/
structure FaM (w : World) (a1 : Option Addr) (n1 c1 : Nat) (Ds : List Nat) (W : World) : Prop where
  row : Boxed W w.heap.size 29 (.slice a1 n1 c1)
  res : Boxed W (w.heap.size + 1) 4 (.bool false)
  below : Below w.heap.size w W
  ds : ∀ D ∈ Ds, W.heap[D]? = some (.deferred (some []))
theorem FaM.under {w : World} {a1 : Option Addr} {n1 c1 : Nat} {Ds : List Nat} {W W' : World} (h : FaM w a1 n1 c1 Ds W) (hb : Below W.heap.size W W') : FaM w a1 n1 c1 Ds W' :=
  ⟨Boxed.belowK h.row hb h.row.lt, Boxed.belowK h.res hb h.res.lt, h.below.trans (hb.mono h.below.size), fun D hD => (hb.block D (Array.getElem?_eq_some_iff.1 (h.ds D hD)).1).trans (h.ds D hD)⟩
theorem FaM.turn {w : World} {a1 : Option Addr} {n1 c1 s : Nat} {Ds : List Nat} {A C : World} {row : Option Nat} (h : FaM w a1 n1 c1 Ds A) (hs : w.heap.size ≤ s) (hds : ∀ D ∈ Ds, D < s) (hg : A.grownBy C row)
    (hr : ∀ k, row = some k → s ≤ k ∧ ∃ o : Obj, A.heap[k]? = some o ∧ o.isCells = false) : FaM w a1 n1 c1 Ds C := by
  have hne : ∀ k cs t f, A.heap[k]? = some (.cells cs t f) → row ≠ some k := fun k cs t f hk he => by
    obtain ⟨_, o, ho, hc⟩ := hr k he
    rw [hk] at ho
    cases ho
    cases hc
  refine ⟨h.row.kept hg (fun he => hne _ _ _ _ h.row he.symm), h.res.kept hg (fun he => hne _ _ _ _ h.res he.symm), h.below.grown hg h.below.size (fun k e => by have := (hr k e).1; omega), fun D hD => ?_⟩
  have hlt := (Array.getElem?_eq_some_iff.1 (h.ds D hD)).1
  exact (hg.block D hlt (fun e => by have h1 := (hr D e.symm).1; have h2 := hds D hD; omega)).trans (h.ds D hD)
theorem FaM.set {w : World} {a1 : Option Addr} {n1 c1 : Nat} {Ds : List Nat} {W : World} (h : FaM w a1 n1 c1 Ds W) : FaM w a1 n1 c1 Ds (W.setCell ⟨w.heap.size + 1, 0, none⟩ (.bool false)) := by
  refine ⟨h.row.other (by omega) _, h.res.set _, h.below.setCell (p := ⟨w.heap.size + 1, 0, none⟩) (by simp) _, fun D hD => ?_⟩
  have hlt := (Array.getElem?_eq_some_iff.1 (h.ds D hD)).1
  exact ((grownBy_setCell' W (w.heap.size + 1) (.bool false)).block D hlt (fun e => cells_ne (h.ds D hD) h.res (Option.some.inj e))).trans (h.ds D hD)
def FaL (w : World) (xs : List Int) (os : List (List Int)) (a0 : Option Addr) (n0 c0 : Nat) (a1 : Option Addr) (n1 c1 : Nat) (m : Nat) (a : Act) (W : World) : Prop :=
  ∃ (p : Nat) (Ds : List Nat) (u : Nat → Value), a = { tmps := FaTmps a0 n0 c0 a1 n1 c1 w.heap.size p u, defers := Ds.map mark } ∧ n0 + 1 = p + m ∧ 0 < m ∧
    Hid (∀ p' q, p' < p → (rw' xs p').testBit q = true → 0 < T.cmpRow (os.getD p' []) (os.getD q [])) ∧ FaM w a1 n1 c1 Ds W ∧ (Ds.Nodup ∧ ∀ D ∈ Ds, w.heap.size ≤ D)

set_option maxRecDepth 100000 in
set_option maxHeartbeats 8000000 in
theorem impl_FallOk (a0 : Option Addr) (n0 c0 : Nat) (x0 : List Int) (a1 : Option Addr) (n1 c1 : Nat) (x1 : List (List Int)) (w : World) (h0 : Sl w a0 n0 c0 x0) (h1 : SlR w a1 n1 c1 x1) (hT : Tab w) :
    Calls Tryd.prog 15 #[.slice a0 n0 c0, .slice a1 n1 c1] w fun e w' => e = .returned (.bool (fallB x0 x1)) ∧ Below w.heap.size w w' := by
  obtain ⟨W, hW⟩ : ∃ W, W = (w.alloc (.cells #[.slice a1 n1 c1] 29)).alloc (.cells #[.bool false] 4) := ⟨_, rfl⟩
  have hbW : Below w.heap.size w W := by rw [hW]; exact ((Below.refl _ _).alloc (Nat.le_refl _) _).alloc (by simp) _
  have hrow : Boxed W w.heap.size 29 (.slice a1 n1 c1) := by rw [hW]; exact (Boxed.new w _ _).alloc _
  have hres : Boxed W (w.heap.size + 1) 4 (.bool false) := by
    have h9 := Boxed.new (w.alloc (.cells #[.slice a1 n1 c1] 29)) 4 (.bool false)
    rw [World.size_alloc] at h9
    rw [hW]; exact h9
  have hM0 : FaM w a1 n1 c1 [] W := ⟨hrow, hres, hbW, fun D hD => by cases hD⟩
  have k0 := Lib.hid (iRelValid_any a0 n0 c0 x0 W (h0.below hbW))
  have kA := Lib.hid (fun wx (hx : Below w.heap.size w wx) => allOrds_any a1 n1 c1 x1 wx (h1.below hx))
  have HWe := Lib.hid hW.symm
  have HM0 := Lib.hid hM0
  have z3 := hrow.cell
  have z4 := hres.cell
  have f4 := hres.frozen
  have HL0 := Lib.hid h0.1
  have HL1 := Lib.hid h1.1
  have H0 := Lib.hid h0
  have H1 := Lib.hid h1
  have HT := Lib.hid hT
  have htl := hT.lt
  obtain ⟨o, ho⟩ : ∃ o, o = fallB x0 x1 := ⟨_, rfl⟩
  have HNo : Hid (¬ FallP x0 x1 → o = false) := fun h9 => ho.trans (fallB_no h9)
  have HYes : Hid (FallP x0 x1 → o = true) := fun h9 => ho.trans (fallB_yes h9)
  rw [← ho]
  clear h0 h1 ho hT hW hbW hrow hres hM0
  refine (callsIn_wide (n := 20)).1 ?_
  rcases rel_tf x0 with e0 | e0
  · rw [e0] at k0
    have hR0 := relB_true.1 e0
    have hn0 := hR0.1
    rw [HL0.out] at hn0
    have HR0 := Lib.hid hR0
    clear e0 hR0
    by_cases hne : n1 = n0
    · subst hne
      have kA2 := Lib.hid (kA.out W HM0.out.below)
      rcases vlds_tf x1 with ev | ev
      · rw [ev] at kA2
        have HV : Hid (∀ j x, x1[j]? = some x → T.vldB x = true) := fun j x hx => vldsB_true.1 ev x (List.mem_of_getElem? hx)
        obtain ⟨b0, o0, rfl, hat0⟩ := H0.out.2.2.2 (by omega)
        have hb0 : b0 < w.heap.size := hat0.lt (by intro h9; have := HL0.out; rw [h9] at this; simp at this; omega)
        obtain ⟨b1, o1, rfl, _⟩ := H1.out.2.2.2 (by omega)
        have HA0 := Lib.hid hat0
        clear hat0 ev
        refine callsIn_of_wp_marks Tryd.func15 rfl trivial ?_ rfl
        simp only [Tryd.ntmps15, List.size_toArray, List.length_cons, List.length_nil, Nat.reduceAdd, Nat.reduceSub, Array.replicate_succ, Array.replicate_zero, List.push_toArray, List.append_toArray, List.nil_append, List.cons_append]
        gi_wp2
        rw [HWe.out]
        refine ⟨trivial, (callsIn_wide.2 k0.out).mono ?_⟩
        rintro ee wx ⟨rfl, rfl⟩
        gi_wp2
        refine ⟨trivial, (callsIn_wide.2 kA2.out).mono ?_⟩
        rintro ee w2 ⟨rfl, hb2⟩
        have HM2 := Lib.hid (HM0.out.under hb2)
        clear hb2 z3 z4 f4
        gi_wp2
        refine wpIn_loop_inv (FaL w x0 x1 (some ⟨b0, o0, none⟩) n1 c0 (some ⟨b1, o1, none⟩) n1 c1) (n1 + 1) ?start (fun _ _ h9 => by obtain ⟨_, _, _, _, _, h8, _⟩ := h9; omega) ?round
        case start =>
          exact ⟨0, [], (fun k => [undef, undef, undef, undef, undef, undef, undef, undef, .slice (some ⟨b0, o0, none⟩) n1 c0, .bool true, .bool false, .bool false, .slice (some ⟨b1, o1, none⟩) n1 c1, .int .i64 n1, .slice (some ⟨b0, o0, none⟩) n1 c0, .int .i64 n1, .bool false, .bool false, .bool false, .slice (some ⟨b1, o1, none⟩) n1 c1, .bool true, .bool false, .bool false].getD k undef), rfl,
            by omega, by omega, Lib.hid (fun p' q hj => by omega), HM2.out, ⟨List.nodup_nil, fun D hD => by cases hD⟩⟩
        case round =>
          rintro m a Wr K ⟨p, Ds, u, rfl, hpm, _, HP, hM, ⟨hnd, hlo⟩⟩ hK
          have HM := Lib.hid hM
          have Hnd := Lib.hid hnd
          have Hlo := Lib.hid hlo
          have hwr := hM.below.size
          by_cases hp : p < n1
          · have hbW := hM.below
            have y0 : Wr.cell? ⟨b0, o0 + p, none⟩ = some (.int .i64 (rw' x0 p : Int)) := by
              have h9 := (HA0.out.below hbW hb0) p (by rw [HL0.out]; exact hp)
              rw [h9, HR0.out.row_int (by rw [HL0.out]; exact hp)]
            have hA9 := HR0.out.row p
            rw [HL0.out] at hA9
            obtain ⟨A, hA⟩ : ∃ A, A = rw' x0 p := ⟨_, rfl⟩
            rw [← hA] at y0 hA9
            have HAe := Lib.hid hA
            obtain ⟨ps, hps⟩ := pts_pt hn0.2 hA9
            have hA4 : A < 4096 := Nat.lt_of_lt_of_le hA9 (two_le hn0.2)
            clear hA hM hbW hnd hlo
            rw [FaTmps]
            gi_wp2
            refine ⟨trivial, (callsIn_wide.2 (pointsIn_any A _)).mono ?_⟩
            rintro ee ws ⟨rfl, rfl⟩
            gi_wp2
            obtain ⟨W0, hW0⟩ : ∃ W0, W0 = (Wr.alloc (.cells #[.int .i64 p] 3)).alloc (.cells #[.int .i64 A] 3) := ⟨_, rfl⟩
            rw [← hW0]
            have hb0 : Below Wr.heap.size Wr W0 := by rw [hW0]; exact ((Below.refl _ _).alloc (Nat.le_refl _) _).alloc (by simp) _
            have es : Boxed W0 (Wr.heap.size + 1) 3 (.int .i64 A) := by
              have h9 := Boxed.new (Wr.alloc (.cells #[.int .i64 p] 3)) 3 (.int .i64 A)
              rw [World.size_alloc] at h9
              rw [hW0]; exact h9
            have ept : Boxed W0 Wr.heap.size 3 (.int .i64 p) := by rw [hW0]; exact (Boxed.new Wr _ _).alloc _
            have hs0 : W0.heap.size = Wr.heap.size + 2 := by rw [hW0]; simp
            have hM0' := HM.out.under hb0
            have hwW0 := hM0'.below.size
            have hDs0 : ∀ D ∈ Ds, D < W0.heap.size := fun D hD => (Array.getElem?_eq_some_iff.1 (hM0'.ds D hD)).1
            have HDs0 := Lib.hid hDs0
            have hst := points1_stops 19 n1 A (Wr.heap.size + 1) w.heap.size ps W0 hn0.2 hA9 hps hwW0 htl (HT.out.below hM0'.below htl) (by omega) es.cell
            have h00 : FaM w (some ⟨b1, o1, none⟩) n1 c1 Ds W0 ∧ Boxed W0 Wr.heap.size 3 (.int .i64 p) ∧ Hid (∀ x ∈ ([] : List (Pt n1)), 0 < T.cmpRow (x1.getD p []) (x1.getD x.1 [])) := ⟨hM0', ept, fun x hx => by cases hx⟩
            have Hps := Lib.hid hps
            clear hW0 es ept hb0 hM0' hDs0 hps y0
            refine wpIn_rangeFunc_ownG rfl (by omega) (gf := 42) (lb := #[.pointer (some ⟨Wr.heap.size + 1, 0, none⟩)]) rfl trivial (enters_of Tryd.func42 (by kernel_rfl) rfl)
              hst Below.trans (belowPut hwW0) (Below.refl _ _) (fun _ => rfl)
              (fun (pre : List (Pt n1)) W' => FaM w (some ⟨b1, o1, none⟩) n1 c1 Ds W' ∧ Boxed W' Wr.heap.size 3 (.int .i64 p) ∧ Hid (∀ x ∈ pre, 0 < T.cmpRow (x1.getD p []) (x1.getD x.1 [])))
              (fun c pre W' => c = .ret ∧ FaM w (some ⟨b1, o1, none⟩) n1 c1 Ds W' ∧ Hid (∃ x ∈ pre, T.cmpRow (x1.getD p []) (x1.getD x.1 []) ≤ 0)) ?hI ?hIx h00
              (fun x => { tmps := #[.slice (some ⟨b0, o0, none⟩) n1 c0, .slice (some ⟨b1, o1, none⟩) n1 c1, undef, .pointer (some ⟨w.heap.size, 0, none⟩), .pointer (some ⟨w.heap.size + 1, 0, none⟩), .pointer (some ⟨Wr.heap.size, 0, none⟩), .int .i64 A, .int .i64 x.1, u 8, u 9, u 10, u 11, u 12, u 13, u 14, u 15, u 16, u 17, u 18, u 19, u 20, u 21, u 22, .slice (some ⟨b0, o0, none⟩) n1 c0, .int .i64 n1, .int .i64 p, .bool true, .int .i64 p, .pointer (some ⟨b0, o0 + p, none⟩), .int .i64 A, .int .i64 A, .func (.func 42) #[] #[.pointer (some ⟨Wr.heap.size + 1, 0, none⟩)], .int .i64 x.1, u 33, u 34, u 35, u 36, u 37, u 38, u 39, u 40, u 41, u 42, u 43], defers := [] }) ?assign ?body ?done ?stop
            case hI =>
              rintro s' A' C row ⟨hm, hx, hc⟩ hg hr
              refine ⟨hm.turn hwW0 HDs0.out hg hr, hx.kept hg (fun he => ?_), hc⟩
              obtain ⟨_, o', ho', hc'⟩ := hr _ he.symm
              rw [hx] at ho'
              cases ho'
              cases hc'
            case hIx =>
              rintro cc s' A' C row ⟨h1, hm, hc⟩ hg hr
              exact ⟨h1, hm.turn hwW0 HDs0.out hg hr, hc⟩
            case assign =>
              intro l' x W' K' hK'
              gi_wp2
              exact hK'
            case body =>
              rintro l pre x Wb ⟨hm, hx5, hc⟩ _
              have hxn : x.1 < n1 := x.2
              have z3 := hm.row.cell
              have z5 := hx5.cell
              obtain ⟨xp, hxp⟩ : ∃ y, x1[p]? = some y := ⟨x1[p]'(by rw [HL1.out]; exact hp), List.getElem?_eq_getElem _⟩
              obtain ⟨xq, hxq⟩ : ∃ y, x1[x.1]? = some y := ⟨x1[x.1]'(by rw [HL1.out]; exact hxn), List.getElem?_eq_getElem _⟩
              obtain ⟨b1', o1', hbe, hat⟩ := (H1.out.below hm.below).2.2.2 (by omega)
              cases hbe
              obtain ⟨ap, np, cp, ep, sp⟩ := hat p xp hxp
              obtain ⟨aq, nq, cq, eq, sq⟩ := hat x.1 xq hxq
              have hgp : x1.getD p [] = xp := by simp [List.getD, hxp]
              have hgq : x1.getD x.1 [] = xq := by simp [List.getD, hxq]
              have kc := Lib.hid (fun wx (hx : Below Wb.heap.size Wb wx) => compI_any ap np cp xp aq nq cq xq wx (sp.below hx) (sq.below hx) (HV.out p xp hxp) (HV.out x.1 xq hxq))
              have HZe := Lib.hid (show T.cmpRow (x1.getD p []) (x1.getD x.1 []) = T.cmpRow xp xq by rw [hgp, hgq])
              obtain ⟨Z, hZ⟩ : ∃ Z, Z = T.cmpRow xp xq := ⟨_, rfl⟩
              rw [← hZ] at kc HZe
              have Hm := Lib.hid hm
              have Hx5 := Lib.hid hx5
              have Hc := Lib.hid hc
              clear hZ hgp hgq hat sp sq hxp hxq hm hx5 hc
              have hl1 : Wb.cell? ⟨b1, o1 + p, none⟩ = some (.slice ap np cp) := ep
              have hl2 : Wb.cell? ⟨b1, o1 + x.1, none⟩ = some (.slice aq nq cq) := eq
              gi_wp2
              refine region_S (fun w' => w'.cell? ⟨w.heap.size, 0, none⟩ = some (.slice (some ⟨b1, o1, none⟩) n1 c1) ∧ w'.cell? ⟨Wr.heap.size, 0, none⟩ = some (.int .i64 p) ∧ w'.cell? ⟨b1, o1 + p, none⟩ = some (.slice ap np cp) ∧ w'.cell? ⟨b1, o1 + x.1, none⟩ = some (.slice aq nq cq)) (by kernel_rfl) ?_
              have hS0 : Wb.drew.cell? ⟨w.heap.size, 0, none⟩ = some (.slice (some ⟨b1, o1, none⟩) n1 c1) ∧ Wb.drew.cell? ⟨Wr.heap.size, 0, none⟩ = some (.int .i64 p) ∧ Wb.drew.cell? ⟨b1, o1 + p, none⟩ = some (.slice ap np cp) ∧ Wb.drew.cell? ⟨b1, o1 + x.1, none⟩ = some (.slice aq nq cq) := ⟨z3, z5, hl1, hl2⟩
              have HS0 := Lib.hid hS0
              clear hS0 z3 z5 hl1 hl2 ep eq
              have hip : (0 : Int) ≤ (p : Int) ∧ (p : Int) < (n1 : Int) := by omega
              have hix : (0 : Int) ≤ (x.1 : Int) ∧ (x.1 : Int) < (n1 : Int) := by omega
              refine AnyS.take (i := 0) (v := .slice (some ⟨b1, o1, none⟩) n1 c1) (NoDefer.of (by kernel_rfl)) rfl (by kernel_rfl) (by kernel_rfl) (by kernel_rfl) (fun _ _ _ h => h) ⟨Or.inl ⟨by rfl, fun w' hS => by obtain ⟨s1, s2, s3, s4⟩ := hS; go_simp⟩, fun _ => rfl⟩ HS0.out ?_
              refine AnyS.take (i := 1) (v := .int .i64 p) (NoDefer.of (by kernel_rfl)) rfl (by kernel_rfl) (by kernel_rfl) (by kernel_rfl) (fun _ _ _ h => h) ⟨Or.inl ⟨by rfl, fun w' hS => by obtain ⟨s1, s2, s3, s4⟩ := hS; go_simp⟩, fun _ => rfl⟩ HS0.out ?_
              refine AnyS.take (i := 2) (v := .pointer (some ⟨b1, o1 + p, none⟩)) (NoDefer.of (by kernel_rfl)) rfl (by kernel_rfl) (by kernel_rfl) (by kernel_rfl) (fun _ _ _ h => h) ⟨Or.inl ⟨by rfl, fun w' hS => by obtain ⟨s1, s2, s3, s4⟩ := hS; go_simp⟩, fun _ => rfl⟩ HS0.out ?_
              refine AnyS.take (i := 3) (v := .slice ap np cp) (NoDefer.of (by kernel_rfl)) rfl (by kernel_rfl) (by kernel_rfl) (by kernel_rfl) (fun _ _ _ h => h) ⟨Or.inl ⟨by rfl, fun w' hS => by obtain ⟨s1, s2, s3, s4⟩ := hS; go_simp⟩, fun _ => rfl⟩ HS0.out ?_
              refine AnyS.take (i := 4) (v := .slice (some ⟨b1, o1, none⟩) n1 c1) (NoDefer.of (by kernel_rfl)) rfl (by kernel_rfl) (by kernel_rfl) (by kernel_rfl) (fun _ _ _ h => h) ⟨Or.inl ⟨by rfl, fun w' hS => by obtain ⟨s1, s2, s3, s4⟩ := hS; go_simp⟩, fun _ => rfl⟩ HS0.out ?_
              refine AnyS.take (i := 5) (v := .int .i64 x.1) (NoDefer.of (by kernel_rfl)) rfl (by kernel_rfl) (by kernel_rfl) (by kernel_rfl) (fun _ _ _ h => h) ⟨Or.inl ⟨by rfl, fun w' hS => by obtain ⟨s1, s2, s3, s4⟩ := hS; go_simp⟩, fun _ => rfl⟩ HS0.out ?_
              refine AnyS.take (i := 6) (v := .pointer (some ⟨b1, o1 + x.1, none⟩)) (NoDefer.of (by kernel_rfl)) rfl (by kernel_rfl) (by kernel_rfl) (by kernel_rfl) (fun _ _ _ h => h) ⟨Or.inl ⟨by rfl, fun w' hS => by obtain ⟨s1, s2, s3, s4⟩ := hS; go_simp⟩, fun _ => rfl⟩ HS0.out ?_
              refine AnyS.take (i := 7) (v := .slice aq nq cq) (NoDefer.of (by kernel_rfl)) rfl (by kernel_rfl) (by kernel_rfl) (by kernel_rfl) (fun _ _ _ h => h) ⟨Or.inl ⟨by rfl, fun w' hS => by obtain ⟨s1, s2, s3, s4⟩ := hS; go_simp⟩, fun _ => rfl⟩ HS0.out ?_
              refine AnyS.one (i := 8) (by kernel_rfl) ?_
              refine wpOpIn_step rfl (fun K hK => ?_)
              go_simp
              refine ⟨trivial, (CallsIn.inRound l (callsIn_wide.2 (kc.out _ (Joins.below_draws _ _ _)))).mono ?_⟩
              rintro ee wx ⟨rfl, hbx⟩
              have hbw : Below Wb.heap.size Wb wx := (Joins.below_draws _ _ _).trans hbx
              have hS1 : wx.cell? ⟨w.heap.size, 0, none⟩ = some (.slice (some ⟨b1, o1, none⟩) n1 c1) ∧ wx.cell? ⟨Wr.heap.size, 0, none⟩ = some (.int .i64 p) ∧ wx.cell? ⟨b1, o1 + p, none⟩ = some (.slice ap np cp) ∧ wx.cell? ⟨b1, o1 + x.1, none⟩ = some (.slice aq nq cq) := by
                obtain ⟨s1, s2, s3, s4⟩ := HS0.out
                exact ⟨(hbx.cell (World.block_lt_of_cell? _ _ s1)).trans s1, (hbx.cell (World.block_lt_of_cell? _ _ s2)).trans s2, (hbx.cell (World.block_lt_of_cell? _ _ s3)).trans s3, (hbx.cell (World.block_lt_of_cell? _ _ s4)).trans s4⟩
              have HS1 := Lib.hid hS1
              have Hbw := Lib.hid hbw
              clear hS1 hbx hbw HS0
              refine hK _ _ ⟨HS1.out, ?_⟩
              clear hK
              refine AnyS.take (i := 9) (v := .bool (decide (Z ≤ 0))) (NoDefer.of (by kernel_rfl)) rfl (by kernel_rfl) (by kernel_rfl) (by kernel_rfl) (fun _ _ _ h => h) ⟨Or.inl ⟨by rfl, fun w' hS => by go_simp⟩, fun _ => rfl⟩ HS1.out ?_
              refine AnyS.none (by kernel_rfl) ?_ _
              have hmx := Hm.out.under Hbw.out
              have z4 := hmx.res.cell
              have f4 := hmx.res.frozen
              have Hmx := Lib.hid hmx
              clear hmx
              by_cases hz : Z ≤ 0
              · have HX := Lib.hid (show ∃ y ∈ pre ++ [x], T.cmpRow (x1.getD p []) (x1.getD y.1 []) ≤ 0 from ⟨x, by simp, by rw [HZe.out]; exact hz⟩)
                gi_wp2
                unfold ownPostG
                have hrl := Hm.out.res.lt
                have hml := Hm.out.below.size
                refine ⟨⟨Nat.le_trans Hbw.out.size (grownBy_setCell' _ _ _).size, fun k o' hk0 hk _ => ((grownBy_setCell' _ _ _).block k (by have := (Array.getElem?_eq_some_iff.1 hk).1; have := Hbw.out.size; omega) (by intro e9; cases e9; omega)).trans ((Hbw.out.block k (Array.getElem?_eq_some_iff.1 hk).1).trans hk)⟩, rfl, Hmx.out.set, HX⟩
              · have HX := Lib.hid (show 0 < T.cmpRow (x1.getD p []) (x1.getD x.1 []) by rw [HZe.out]; omega)
                have hpre : ∀ y ∈ pre ++ [x], 0 < T.cmpRow (x1.getD p []) (x1.getD y.1 []) := fun y hy => by
                  rcases List.mem_append.1 hy with h9 | h9
                  · exact Hc.out y h9
                  · rw [List.mem_singleton.1 h9]; exact HX.out
                have Hpre := Lib.hid hpre
                clear hpre
                gi_wp2
                exact ⟨⟨Hbw.out.size, fun k o' _ hk _ => (Hbw.out.block k (Array.getElem?_eq_some_iff.1 hk).1).trans hk⟩, Hbw.out.mono Hm.out.below.size, Hmx.out, Boxed.belowK Hx5.out Hbw.out Hx5.out.lt, Lib.hid (fun a b h => Hpre.out ⟨a, b⟩ h)⟩
            case done =>
              rintro D xs' Wd hD rfl ⟨hm, hx5, hc⟩ hKD
              have Hm := Lib.hid hm
              have hnew : ∀ p' q, p' < p + 1 → (rw' x0 p').testBit q = true → 0 < T.cmpRow (x1.getD p' []) (x1.getD q []) := fun p' q hp' hb => by
                by_cases hpp : p' = p
                · subst hpp
                  rw [← HAe.out] at hb
                  have h9 : q ∈ pts A := (mem_pts hA4).2 hb
                  rw [← Hps.out] at h9
                  obtain ⟨y, hy, rfl⟩ := List.mem_map.1 h9
                  exact hc.out y hy
                · exact HP.out p' q (by omega) hb
              have Hnew := Lib.hid hnew
              clear hm hx5 hc hnew
              gi_wp2
              refine ⟨p + 1, D :: Ds, (fun k => [undef, undef, undef, undef, undef, .pointer (some ⟨Wr.heap.size, 0, none⟩), .int .i64 A, u 7, u 8, u 9, u 10, u 11, u 12, u 13, u 14, u 15, u 16, u 17, u 18, u 19, u 20, u 21, u 22, undef, undef, undef, .bool true, .int .i64 p, .pointer (some ⟨b0, o0 + p, none⟩), .int .i64 A, .int .i64 A, .func (.func 42) #[] #[.pointer (some ⟨Wr.heap.size + 1, 0, none⟩)], u 32, u 33, u 34, u 35, u 36, u 37, u 38, u 39, u 40, u 41, u 42, .int .i64 ((p : Int) + 1)].getD k undef), rfl, by omega, by omega, Hnew, ⟨Hm.out.row, Hm.out.res, Hm.out.below, fun E hE => ?_⟩, List.nodup_cons.2 ⟨fun h9 => by have := HDs0.out D h9; omega, Hnd.out⟩, fun E hE => ?_⟩
              · rcases List.mem_cons.1 hE with rfl | h9
                · exact hKD
                · exact Hm.out.ds E h9
              · rcases List.mem_cons.1 hE with rfl | h9
                · omega
                · exact Hlo.out E h9
            case stop =>
              rintro D cc pre Wd hD hpre ⟨rfl, hm, hx⟩ hKD
              have hof : o = false := HNo.out (fun h9 => by
                obtain ⟨y, hy, hy2⟩ := hx.out
                have h7 : y.1 ∈ pts A := by
                  rw [← Hps.out]
                  exact List.mem_map.2 ⟨y, hpre.2.subset hy, rfl⟩
                have h6 := (mem_pts hA4).1 h7
                rw [HAe.out] at h6
                have h8 := h9.2.2.2 p y.1 (by rw [HL0.out]; exact hp) h6
                omega)
              subst hof
              have Hm := Lib.hid hm
              clear hm hx
              gi_wp2
              refine leaves_marks (K := fun W' => Boxed W' (w.heap.size + 1) 4 (.bool false) ∧ Below w.heap.size w W') w.heap.size ?_ ?_ (D :: Ds) Wd (List.nodup_cons.2 ⟨fun h9 => by have := HDs0.out D h9; omega, Hnd.out⟩) (fun E hE => ?_) (fun E hE => ?_) ⟨Hm.out.res, Hm.out.below⟩
              · rintro W' D' o' ⟨h1, h2⟩ hl hD'
                exact ⟨h1.kept (grownBy_putObj' W' D' o') (fun e => cells_ne hD' h1 (Option.some.inj e).symm), h2.grown (grownBy_putObj' W' D' o') h2.size (fun k e => by cases e; exact hl)⟩
              · rintro W' ⟨h1, h2⟩
                exact falls_out rfl h1.cell ⟨rfl, h2⟩
              · rcases List.mem_cons.1 hE with rfl | h9
                · omega
                · exact Hlo.out E h9
              · rcases List.mem_cons.1 hE with rfl | h9
                · exact hKD
                · exact Hm.out.ds E h9
          · obtain rfl : p = n1 := by omega
            have hoT := HYes.out ⟨HR0.out, by rw [HL0.out, HL1.out], fun x hx => by
              obtain ⟨j, hj⟩ := List.mem_iff_getElem?.1 hx; exact HV.out j x hj, fun p' q hp' hb => HP.out p' q (by rw [HL0.out] at hp'; exact hp') hb⟩
            subst hoT
            have z4 := HM.out.res.cell
            have f4 := HM.out.res.frozen
            have HX := Lib.hid (HM.out.res.set (.bool true))
            have HB := Lib.hid (HM.out.below.setCell (p := ⟨w.heap.size + 1, 0, none⟩) (by show w.heap.size ≤ w.heap.size + 1; omega) (.bool true))
            clear hM hnd hlo
            rw [FaTmps]
            gi_wp2
            refine leaves_marks (K := fun W' => Boxed W' (w.heap.size + 1) 4 (.bool true) ∧ Below w.heap.size w W') w.heap.size ?_ ?_ Ds _ Hnd.out Hlo.out (fun E hE => ?_) ⟨HX.out, HB.out⟩
            · rintro W' D' o' ⟨h1, h2⟩ hl hD'
              exact ⟨h1.kept (grownBy_putObj' W' D' o') (fun e => cells_ne hD' h1 (Option.some.inj e).symm), h2.grown (grownBy_putObj' W' D' o') h2.size (fun k e => by cases e; exact hl)⟩
            · rintro W' ⟨h1, h2⟩
              exact falls_out rfl h1.cell ⟨rfl, h2⟩
            · have h9 := HM.out.ds E hE
              exact ((grownBy_setCell' _ _ _).block E (Array.getElem?_eq_some_iff.1 h9).1 (fun e => cells_ne h9 HM.out.res (Option.some.inj e))).trans h9
      · rw [ev] at kA2
        have hof : o = false := HNo.out (fun h9 => by
          have h8 := vldsB_true.2 h9.2.2.1
          rw [ev] at h8
          cases h8)
        subst hof
        obtain ⟨b0, o0, rfl, hat0⟩ := H0.out.2.2.2 (by omega)
        obtain ⟨b1, o1, rfl, _⟩ := H1.out.2.2.2 (by omega)
        clear ev hat0
        refine callsIn_of_wp_marks Tryd.func15 rfl trivial ?_ rfl
        simp only [Tryd.ntmps15, List.size_toArray, List.length_cons, List.length_nil, Nat.reduceAdd, Nat.reduceSub, Array.replicate_succ, Array.replicate_zero, List.push_toArray, List.append_toArray, List.nil_append, List.cons_append]
        gi_wp2
        rw [HWe.out]
        refine ⟨trivial, (callsIn_wide.2 k0.out).mono ?_⟩
        rintro ee wx ⟨rfl, rfl⟩
        gi_wp2
        refine ⟨trivial, (callsIn_wide.2 kA2.out).mono ?_⟩
        rintro ee w2 ⟨rfl, hb2⟩
        have HM2 := Lib.hid (HM0.out.under hb2)
        have y4 := HM2.out.res.cell
        have g4 := HM2.out.res.frozen
        clear hb2 z3 z4 f4
        gi_wp2
        exact falls_out rfl (HM2.out.res.set (.bool false)).cell ⟨rfl, HM2.out.below.setCell (p := ⟨w.heap.size + 1, 0, none⟩) (by show w.heap.size ≤ w.heap.size + 1; omega) _⟩
    · have hof : o = false := HNo.out (fun h9 => hne (by have := h9.2.1; rw [HL0.out, HL1.out] at this; omega))
      subst hof
      have hneb : ((n1 : Int) != (n0 : Int)) = true := by
        simp only [bne_iff_ne, ne_eq, Int.ofNat_inj]
        exact hne
      clear hne
      refine callsIn_of_wp_marks Tryd.func15 rfl trivial ?_ rfl
      simp only [Tryd.ntmps15, List.size_toArray, List.length_cons, List.length_nil, Nat.reduceAdd, Nat.reduceSub, Array.replicate_succ, Array.replicate_zero, List.push_toArray, List.append_toArray, List.nil_append, List.cons_append]
      gi_wp2
      rw [HWe.out]
      refine ⟨trivial, (callsIn_wide.2 k0.out).mono ?_⟩
      rintro ee wx ⟨rfl, rfl⟩
      gi_wp2
      refine ⟨trivial, ?_⟩
      gi_wp2
      exact falls_out rfl (HM0.out.res.set (.bool false)).cell ⟨rfl, HM0.out.below.setCell (p := ⟨w.heap.size + 1, 0, none⟩) (by show w.heap.size ≤ w.heap.size + 1; omega) _⟩
  · rw [e0] at k0
    have hof : o = false := HNo.out (fun h9 => relB_false e0 h9.1)
    subst hof
    clear e0
    refine callsIn_of_wp_marks Tryd.func15 rfl trivial ?_ rfl
    simp only [Tryd.ntmps15, List.size_toArray, List.length_cons, List.length_nil, Nat.reduceAdd, Nat.reduceSub, Array.replicate_succ, Array.replicate_zero, List.push_toArray, List.append_toArray, List.nil_append, List.cons_append]
    gi_wp2
    rw [HWe.out]
    refine ⟨trivial, (callsIn_wide.2 k0.out).mono ?_⟩
    rintro ee wx ⟨rfl, rfl⟩
    gi_wp2
    refine ⟨trivial, ?_⟩
    gi_wp2
    exact falls_out rfl (HM0.out.res.set (.bool false)).cell ⟨rfl, HM0.out.below.setCell (p := ⟨w.heap.size + 1, 0, none⟩) (by show w.heap.size ≤ w.heap.size + 1; omega) _⟩

end Go.Proofs.YtfigkfcdfmoihaaDoor
