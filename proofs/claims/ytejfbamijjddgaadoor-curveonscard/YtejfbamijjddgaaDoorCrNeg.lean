/-
  The document's Neg.
-/
import Derived.Test.YtejfbamijjddgaaDoorCvThe
import Derived.Deep.DeepCutAuto
namespace Go.Proofs.YtejfbamijjddgaaDoor
open Go.RowKit Go.IntWalk
attribute [local go_sem ↓] ld_num st_num ld_pln st_pln ld_ops st_ops ld_pnt st_pnt ld_dig st_dig ld_tri st_tri eq_num ne_num eq_pnt ne_pnt bd_pnt ld_F st_F eq_F ld_a32 st_a32 ld_rpt st_rpt eq_rpt bd_rpt eq_dgs bd_f8

theorem stRy {T : TypeId} {w : World} {g : Nat} {X Y R : List Int} {f : Bool} (hX : X.length = 32) (hY : Y.length = 32) (hR : R.length = 32) (h : Blk T w g (pL X Y f)) : (stA 22 (.pointer (some ⟨g, 32, none⟩)) (.agg (bV R).toArray)).run Tryd.prog w = .ok () (w.setCells g 32 (bV R)) ∧ Blk T (w.setCells g 32 (bV R)) g (pL X R f) :=
  ⟨stA_mid (A := bV X) (X := bV Y) (C := [.bool f]) (vs := bV R) (by rw [bV_len, hR]; exact info_a32) h (by rw [bV_len, hX]) (by rw [bV_len, bV_len, hY, hR]) (ints_one _ _), Blk.mid (bV X) (bV Y) [.bool f] (bV R) 32 w h (by rw [bV_len, hX]) (by rw [bV_len, bV_len, hY, hR])⟩

theorem retRp {fn : Func} {p : Tmp} (h : fn.results = #[.cell p 27]) {tmps : Array Value} {w w1 : World} {T : TypeId} {g : Nat} {X Y : List Int} {f : Bool} {Z : List Value} {L : List Value} (hp : tmps.getD p undef = .pointer (some ⟨g, 0, none⟩))
    (HZ : Blk T w1 g Z) (hZ : Z.length = 65) (hL : L = pL X Y f) (hX : X.length = 32) (hY : Y.length = 32) (LB : Below w.heap.size w w1) (hg : w.heap.size ≤ g) :
    bodyPost Tryd.prog fn (fun e w' => e = .returned (.agg (pL X Y f).toArray) ∧ Below w.heap.size w w') .ret { tmps := tmps, defers := [] } (w1.setCells g 0 L) := by
  subst hL
  have hl := pL_len hX hY f
  refine bodyPost_ret (v := .agg (pL X Y f).toArray) ?_ rfl ⟨rfl, below_sets LB hg LB.size _ _⟩
  exact res_one (T := T) (p := p) (ty := 27) (X := pL X Y f) h _ _ hp Tryd.underlying27 rfl (by rw [hl]; exact info_rpt) (blk_all HZ (by rw [hZ, hl]))

/-- What stays while Neg runs. -/
structure Rk (w : World) (L : List Value) (W : World) : Prop where
  p : Blk 27 W w.heap.size L
  z : Blk 27 W (w.heap.size + 1) PZ
  bl : Below w.heap.size w W
theorem Rk.below {w W V : World} {L : List Value} (h : Rk w L W) (b : Below W.heap.size W V) : Rk w L V := ⟨h.p.below b, h.z.below b, below_then h.bl b⟩

set_option maxRecDepth 100000 in
set_option maxHeartbeats 2000000 in
theorem rneg_any (X Y : List Int) (f : Bool) (hX : X.length = 32) (hY : Y.length = 32) (dY : Dg 256 Y) (hlt : f = false → dn Y < PP) (w : World) :
    Calls Tryd.prog 17 #[.agg (pL X Y f).toArray] w fun e w' => e = .returned (.agg (pL X (negY Y f) f).toArray) ∧ Below w.heap.size w w' := by
  have HXL := hide hX
  have HYL := hide hY
  have S0 : Hid (Rk w (pL X Y f) ((w.alloc (.cells (pL X Y f).toArray 27)).alloc (.cells Tryd.zeroCells27 27))) := ⟨(Blk.new w _ _ _ rfl rfl).alloc _, Blk.new _ PZ _ _ zc_rpt (by simp), below2 w _ _⟩
  have HLD : Hid (∀ W, Blk 27 W w.heap.size (pL X Y f) → (ldA 27 (.pointer (some ⟨w.heap.size, 0, none⟩))).run Tryd.prog W = .ok (.agg (pL X Y f).toArray) W ∧ (ldA 22 (.pointer (some ⟨w.heap.size, 32, none⟩))).run Tryd.prog W = .ok (.agg (bV Y).toArray) W) := fun W h => ⟨(rpt_ld hX hY h).1, (rpt_ld hX hY h).2.2⟩
  have c64 : ((w.alloc (.cells (pL X Y f).toArray 27)).alloc (.cells Tryd.zeroCells27 27)).cell? ⟨w.heap.size, 64, none⟩ = some (.bool f) := by rw [S0.out.p.cell]; simp [pL, hX, hY]
  have hone := pL_one X Y f
  cases f with
  | true =>
    have ld0 := (HLD.out _ S0.out.p).1
    have hst := stRp (f := true) hX hY S0.out.z rfl
    obtain ⟨L, hL⟩ : ∃ L, pL X Y true = L := ⟨_, rfl⟩
    have HL := hide hL
    rw [hL] at S0 ld0 hst c64 hone ⊢
    show Calls Tryd.prog 17 #[.agg L.toArray] w fun e w' => e = .returned (.agg (pL X Y true).toArray) ∧ Below w.heap.size w w'
    clear hX hY dY hlt hL HLD
    go_enter Tryd.func17, Tryd.ntmps17
    go_wp2
    exact retRp (p := 2) (by kernel_rfl) rfl S0.out.z rfl HL.out.symm HXL.out HYL.out S0.out.bl (by omega)
  | false =>
    have HFR : Hid (∀ W, Calls Tryd.prog 31 #[.agg (bV Y).toArray] W (Rf (dn Y) W)) := fun W => rfrom_any Y dY hY W
    have HSB : Hid (∀ gf R W, FM W gf → Fw R (dn Y) → Calls Tryd.prog 36 #[.pointer (some ⟨gf, 0, none⟩), .agg (fV z8).toArray, .agg (fV R).toArray] W (Rf (ps 0 (dn Y)) W)) := fun gf R W hF hR => rsub_any gf z8 R 0 (dn Y) fw_z8 hR (by decide) (hlt rfl) W hF
    have HTO : Hid (∀ R W, Fw R (ps 0 (dn Y)) → Calls Tryd.prog 43 #[.agg (fV R).toArray] W fun e w' => e = .returned (.agg (bV (be (ps 0 (dn Y)))).toArray) ∧ Below W.heap.size W w') := fun R W hR => rto_any R _ hR W
    have HST : Hid (∀ W, Blk 27 W w.heap.size (pL X Y false) → (stA 22 (.pointer (some ⟨w.heap.size, 32, none⟩)) (.agg (bV (be (ps 0 (dn Y)))).toArray)).run Tryd.prog W = .ok () (W.setCells w.heap.size 32 (bV (be (ps 0 (dn Y))))) ∧ Blk 27 (W.setCells w.heap.size 32 (bV (be (ps 0 (dn Y))))) w.heap.size (pL X (be (ps 0 (dn Y))) false)) := fun W h => stRy hX hY (be_len _) h
    have HLE : Hid (∀ W, Blk 27 W w.heap.size (pL X (be (ps 0 (dn Y))) false) → (ldA 27 (.pointer (some ⟨w.heap.size, 0, none⟩))).run Tryd.prog W = .ok (.agg (pL X (be (ps 0 (dn Y))) false).toArray) W) := fun W h => (rpt_ld hX (be_len _) h).1
    have hb8 := bdF_f8
    have hPW : Hid (∀ W, Calls Tryd.prog 33 #[] W fun e w' => e = .returned (.agg (fV pW).toArray) ∧ Below W.heap.size W w') := rpW_any
    have hNW : Hid (∀ W, Calls Tryd.prog 34 #[.agg (fV pW).toArray] W fun e w' => ∃ gf, e = .returned (.pointer (some ⟨gf, 0, none⟩)) ∧ W.heap.size ≤ gf ∧ Fd w' gf oneW sqW 1 ∧ Below W.heap.size W w') := rnew_any
    show Calls Tryd.prog 17 #[.agg (pL X Y false).toArray] w fun e w' => e = .returned (.agg (pL X (be (ps 0 (dn Y))) false).toArray) ∧ Below w.heap.size w w'
    have hlr := be_len (ps 0 (dn Y))
    generalize be (ps 0 (dn Y)) = R at *
    have HRL := hide hlr
    have hone2 := pL_one X R false
    generalize fV z8 = LZ8 at *
    generalize fV pW = LPW at *
    generalize hbY : bV Y = LY at *
    generalize hbR : bV R = LR at *
    obtain ⟨L, hL⟩ : ∃ L, pL X Y false = L := ⟨_, rfl⟩
    rw [hL] at S0 c64 hone HLD HST ⊢
    clear hX hY dY hlt hL hlr hbY hbR
    go_enter Tryd.func17, Tryd.ntmps17
    go_upto_region 4 with (first | (go_at_call 33; refine (hPW.out _).mono ?_; rintro e w1 ⟨rfl, LB⟩; have S1 := hide (S0.out.below LB); clear LB) | (go_at_call 34; refine (hNW.out _).mono ?_; rintro e w2 ⟨gf, rfl, hgf, hF, LB⟩; have S2 := hide (S1.out.below LB); have F2 := hide hF; have hG2 := hide hgf; clear LB hF hgf))
    have ldy := (HLD.out _ S2.out.p).2
    go_wp2_with (first | (go_at_call 31; refine (HFR.out _).mono ?_; rintro e w3 ⟨R3, rfl, hR3, LB⟩; have S3 := hide (S2.out.below LB); have F3 := hide (F2.out.below LB); have N3 := hide hR3; clear LB hR3) | (go_at_call 36; refine (HSB.out gf R3 _ F3.out.fm N3.out).mono ?_; rintro e w4 ⟨R4, rfl, hR4, LB⟩; have S4 := hide (S3.out.below LB); have N4 := hide hR4; clear LB hR4) | (go_at_call 43; refine (HTO.out R4 _ N4.out).mono ?_; rintro e w5 ⟨rfl, LB⟩; have S5 := hide (S4.out.below LB); clear LB; obtain ⟨st5, k6⟩ := HST.out _ S5.out.p; have K6 := hide k6; have ld6 := HLE.out _ k6; have z6 := S5.out.z.other (k := w.heap.size) (o := 32) (vs := LR) (by omega); have Z6 := hide z6; have st6 := stRp (f := false) HXL.out HRL.out z6 rfl; have B6 := hide (below_sets S5.out.bl (Nat.le_refl _) S5.out.bl.size 32 LR); clear k6 z6))
    exact retRp (p := 2) (by kernel_rfl) rfl Z6.out rfl rfl HXL.out HRL.out B6.out (by omega)

end Go.Proofs.YtejfbamijjddgaaDoor
