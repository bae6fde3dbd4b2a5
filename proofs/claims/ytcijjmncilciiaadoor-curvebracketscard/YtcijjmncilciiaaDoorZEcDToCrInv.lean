/-
  The document's twice and sum of points by three numbers, and the point for which their answers stand.
  The document's points and 32 bytes, told for the walks of its at and point.
  The document's Invert: the power p - 2.
-/
import Derived.Test.YtcijjmncilciiaaDoorZCrTn
import Derived.Test.YtcijjmncilciiaaDoorZCrSn
import Derived.Test.YtcijjmncilciiaaDoorZEcCToEcJ
import Derived.Test.YtcijjmncilciiaaDoorZEcHToCrTw
import Derived.Test.YtcijjmncilciiaaDoorZCrFrom
import Derived.Test.YtcijjmncilciiaaDoorZCvDecToCvThe
import Derived.Deep.DeepCutAuto
namespace Go.Proofs.YtcijjmncilciiaaDoor
open Go.RowKit Go.IntWalk

/-- Three numbers of the document's stand for a point of the curve. -/
structure RepD (x y z : Int) (p : Option (Int × Int)) : Prop where
  nx : Nb x
  ny : Nb y
  nz : Nb z
  ok : Ok p
  rep : RepJ (uu x) (uu y) (uu z) p

/-- An answer that stands for a point. -/
def AnsD (p : Option (Int × Int)) (w : World) (e : Ending) (w' : World) : Prop := ∃ x y z, e = .returned (.agg (j3 x y z).toArray) ∧ RepD x y z p ∧ Below w.heap.size w w'

theorem far_rep : RepD ONE ONE 0 none := ⟨one_nb, one_nb, zero_nb, True.intro, (uu_zero zero_nb).2 rfl⟩
theorem rep_far {x y z : Int} {p : Option (Int × Int)} (h : RepD x y z p) : z = 0 ↔ p = none := by
  constructor
  · intro e
    match p, h with
    | none, _ => rfl
    | some (a, b), h => exact absurd ((uu_zero h.nz).2 e) h.rep.1
  · intro e
    subst e
    exact (uu_zero h.nz).1 h.rep

theorem twice_at {x y z a b : Int} (h : RepD x y z (some (a, b))) : ∃ tx ty tz, RepD tx ty tz (padd (some (a, b)) (some (a, b))) ∧ ∀ (gf : Nat) (w : World), FF w gf → Calls Tryd.prog 49 #[.pointer (some ⟨gf, 0, none⟩), .agg (j3 x y z).toArray] w (Ans (.agg (j3 tx ty tz).toArray) w) := by
  have hz : z ≠ 0 := fun e => by have := (rep_far h).1 e; cases this
  have hy : y ≠ 0 := fun e => repJ_y h.ok h.rep ((uu_zero h.ny).2 e)
  obtain ⟨v35, h35⟩ : ∃ v, mm z z = v := ⟨_, rfl⟩
  obtain ⟨v41, h41⟩ : ∃ v, ps x v35 = v := ⟨_, rfl⟩
  obtain ⟨v46, h46⟩ : ∃ v, pa x v35 = v := ⟨_, rfl⟩
  obtain ⟨v47, h47⟩ : ∃ v, mm v41 v46 = v := ⟨_, rfl⟩
  obtain ⟨v52, h52⟩ : ∃ v, pa v47 v47 = v := ⟨_, rfl⟩
  obtain ⟨v54, h54⟩ : ∃ v, pa v52 v47 = v := ⟨_, rfl⟩
  obtain ⟨v60, h60⟩ : ∃ v, mm y y = v := ⟨_, rfl⟩
  obtain ⟨v65, h65⟩ : ∃ v, mm x v60 = v := ⟨_, rfl⟩
  obtain ⟨v69, h69⟩ : ∃ v, pa v65 v65 = v := ⟨_, rfl⟩
  obtain ⟨v73, h73⟩ : ∃ v, pa v69 v69 = v := ⟨_, rfl⟩
  obtain ⟨v78, h78⟩ : ∃ v, mm v54 v54 = v := ⟨_, rfl⟩
  obtain ⟨v82, h82⟩ : ∃ v, pa v73 v73 = v := ⟨_, rfl⟩
  obtain ⟨v83, h83⟩ : ∃ v, ps v78 v82 = v := ⟨_, rfl⟩
  obtain ⟨v89, h89⟩ : ∃ v, mm y z = v := ⟨_, rfl⟩
  obtain ⟨v93, h93⟩ : ∃ v, mm v60 v60 = v := ⟨_, rfl⟩
  obtain ⟨v97, h97⟩ : ∃ v, pa v93 v93 = v := ⟨_, rfl⟩
  obtain ⟨v101, h101⟩ : ∃ v, pa v97 v97 = v := ⟨_, rfl⟩
  obtain ⟨v105, h105⟩ : ∃ v, pa v101 v101 = v := ⟨_, rfl⟩
  obtain ⟨v113, h113⟩ : ∃ v, ps v73 v83 = v := ⟨_, rfl⟩
  obtain ⟨v114, h114⟩ : ∃ v, mm v54 v113 = v := ⟨_, rfl⟩
  obtain ⟨v116, h116⟩ : ∃ v, ps v114 v105 = v := ⟨_, rfl⟩
  obtain ⟨v120, h120⟩ : ∃ v, pa v89 v89 = v := ⟨_, rfl⟩
  refine ⟨v83, v116, v120, ⟨by rw [← h83]; exact ps_bd _ _, by rw [← h116]; exact ps_bd _ _, by rw [← h120]; exact pa_bd _ _, padd_ok h.ok h.ok, ?_⟩, fun gf w hF => twice_n gf x y z v35 v41 v46 v47 v52 v54 v60 v65 v69 v73 v78 v82 v83 v89 v93 v97 v101 v105 v113 v114 v116 v120 h.nx h.ny h.nz hz hy h35 h41 h46 h47 h52 h54 h60 h65 h69 h73 h78 h82 h83 h89 h93 h97 h101 h105 h113 h114 h116 h120 w hF⟩
  have R := repJ_twice h.ok h.rep
  have c35 := h35 ▸ uu_mm (Cg.refl (uu z)) (Cg.refl (uu z))
  have c41 := h41 ▸ uu_ps (Cg.refl (uu x)) c35
  have c46 := h46 ▸ uu_pa (Cg.refl (uu x)) c35
  have c47 := h47 ▸ uu_mm c41 c46
  have c52 := h52 ▸ uu_pa c47 c47
  have c54 := h54 ▸ uu_pa c52 c47
  have c60 := h60 ▸ uu_mm (Cg.refl (uu y)) (Cg.refl (uu y))
  have c65 := h65 ▸ uu_mm (Cg.refl (uu x)) c60
  have c69 := h69 ▸ uu_pa c65 c65
  have c73 := h73 ▸ uu_pa c69 c69
  have c78 := h78 ▸ uu_mm c54 c54
  have c82 := h82 ▸ uu_pa c73 c73
  have c83 := h83 ▸ uu_ps c78 c82
  have c89 := h89 ▸ uu_mm (Cg.refl (uu y)) (Cg.refl (uu z))
  have c93 := h93 ▸ uu_mm c60 c60
  have c97 := h97 ▸ uu_pa c93 c93
  have c101 := h101 ▸ uu_pa c97 c97
  have c105 := h105 ▸ uu_pa c101 c101
  have c113 := h113 ▸ uu_ps c73 c83
  have c114 := h114 ▸ uu_mm c54 c113
  have c116 := h116 ▸ uu_ps c114 c105
  have c120 := h120 ▸ uu_pa c89 c89
  clear h35 h41 h46 h47 h52 h54 h60 h65 h69 h73 h78 h82 h83 h89 h93 h97 h101 h105 h113 h114 h116 h120 hz hy
  clear c35 c41 c46 c47 c52 c54 c60 c65 c69 c73 c78 c82 c89 c93 c97 c101 c105 c113 c114
  refine repJ_cg (c83.trans (Cg.of_eq ?_)) (c116.trans (Cg.of_eq ?_)) (c120.trans (Cg.of_eq ?_)) R
  · clear c83 c116 c120 R h
    generalize uu x = X, uu y = Y, uu z = Z
    unfold jX jL
    grind
  · clear c83 c116 c120 R h
    generalize uu x = X, uu y = Y, uu z = Z
    unfold jY jX jL
    grind
  · clear c83 c116 c120 R h
    generalize uu x = X, uu y = Y, uu z = Z
    unfold jZ
    grind

/-- Twice, of any point. -/
theorem rtwice_rep {x y z : Int} {p : Option (Int × Int)} (h : RepD x y z p) (gf : Nat) (w : World) (hF : FF w gf) : Calls Tryd.prog 49 #[.pointer (some ⟨gf, 0, none⟩), .agg (j3 x y z).toArray] w (AnsD (padd p p) w) := by
  match p, h with
  | none, h =>
    refine (twice_z gf x y z h.nz ((rep_far h).2 rfl) w hF).mono ?_
    rintro e w1 ⟨rfl, LB⟩
    exact ⟨_, _, _, rfl, far_rep, LB⟩
  | some (a, b), h =>
    obtain ⟨tx, ty, tz, hR, hC⟩ := twice_at h
    refine (hC gf w hF).mono ?_
    rintro e w1 ⟨rfl, LB⟩
    exact ⟨_, _, _, rfl, hR, LB⟩

/-- The sum, of any two points. -/
theorem rsum_rep {x1 y1 z1 x2 y2 z2 : Int} {p q : Option (Int × Int)} (h1 : RepD x1 y1 z1 p) (h2 : RepD x2 y2 z2 q) (gf : Nat) (w : World) (hF : FF w gf) :
    Calls Tryd.prog 45 #[.pointer (some ⟨gf, 0, none⟩), .agg (j3 x1 y1 z1).toArray, .agg (j3 x2 y2 z2).toArray] w (AnsD (padd p q) w) := by
  match p, q, h1, h2 with
  | none, q, h1, h2 =>
    refine (rsum_a gf x1 y1 z1 x2 y2 z2 h1.nz ((rep_far h1).2 rfl) w hF).mono ?_
    rintro e w1 ⟨rfl, LB⟩
    have e : padd none q = q := by cases q <;> rfl
    rw [e]
    exact ⟨_, _, _, rfl, h2, LB⟩
  | some (a, b), none, h1, h2 =>
    refine (rsum_b gf x1 y1 z1 x2 y2 z2 h1.nz h2.nz (fun e => by have := (rep_far h1).1 e; cases this) ((rep_far h2).2 rfl) w hF).mono ?_
    rintro e w1 ⟨rfl, LB⟩
    exact ⟨_, _, _, rfl, h1, LB⟩
  | some (a, b), some (c, d), h1, h2 =>
    have hz1 : z1 ≠ 0 := fun e => by have := (rep_far h1).1 e; cases this
    have hz2 : z2 ≠ 0 := fun e => by have := (rep_far h2).1 e; cases this
    obtain ⟨tx, ty, tz, hTR, hTC⟩ := twice_at h1
    obtain ⟨v33, h33⟩ : ∃ v, mm z1 z1 = v := ⟨_, rfl⟩
    obtain ⟨v39, h39⟩ : ∃ v, mm z2 z2 = v := ⟨_, rfl⟩
    obtain ⟨v44, h44⟩ : ∃ v, mm x1 v39 = v := ⟨_, rfl⟩
    obtain ⟨v49, h49⟩ : ∃ v, mm x2 v33 = v := ⟨_, rfl⟩
    obtain ⟨v57, h57⟩ : ∃ v, mm v39 z2 = v := ⟨_, rfl⟩
    obtain ⟨v58, h58⟩ : ∃ v, mm y1 v57 = v := ⟨_, rfl⟩
    obtain ⟨v66, h66⟩ : ∃ v, mm v33 z1 = v := ⟨_, rfl⟩
    obtain ⟨v67, h67⟩ : ∃ v, mm y2 v66 = v := ⟨_, rfl⟩
    obtain ⟨v71, h71⟩ : ∃ v, ps v49 v44 = v := ⟨_, rfl⟩
    obtain ⟨v75, h75⟩ : ∃ v, ps v67 v58 = v := ⟨_, rfl⟩
    obtain ⟨v96, h96⟩ : ∃ v, mm v71 v71 = v := ⟨_, rfl⟩
    obtain ⟨v100, h100⟩ : ∃ v, mm v96 v71 = v := ⟨_, rfl⟩
    obtain ⟨v104, h104⟩ : ∃ v, mm v44 v96 = v := ⟨_, rfl⟩
    obtain ⟨v110, h110⟩ : ∃ v, mm v75 v75 = v := ⟨_, rfl⟩
    obtain ⟨v112, h112⟩ : ∃ v, ps v110 v100 = v := ⟨_, rfl⟩
    obtain ⟨v116, h116⟩ : ∃ v, pa v104 v104 = v := ⟨_, rfl⟩
    obtain ⟨v117, h117⟩ : ∃ v, ps v112 v116 = v := ⟨_, rfl⟩
    obtain ⟨v124, h124⟩ : ∃ v, ps v104 v117 = v := ⟨_, rfl⟩
    obtain ⟨v125, h125⟩ : ∃ v, mm v75 v124 = v := ⟨_, rfl⟩
    obtain ⟨v129, h129⟩ : ∃ v, mm v58 v100 = v := ⟨_, rfl⟩
    obtain ⟨v130, h130⟩ : ∃ v, ps v125 v129 = v := ⟨_, rfl⟩
    obtain ⟨v140, h140⟩ : ∃ v, mm z1 z2 = v := ⟨_, rfl⟩
    obtain ⟨v141, h141⟩ : ∃ v, mm v71 v140 = v := ⟨_, rfl⟩
    refine (rsum_n gf x1 y1 z1 x2 y2 z2 v33 v39 v44 v49 v57 v58 v66 v67 v71 v75 v96 v100 v104 v110 v112 v116 v117 v124 v125 v129 v130 v140 v141 h1.nx h1.ny h1.nz h2.nx h2.ny h2.nz hz1 hz2 h33 h39 h44 h49 h57 h58 h66 h67 h71 h75 h96 h100 h104 h110 h112 h116 h117 h124 h125 h129 h130 h140 h141 tx ty tz _ w hF (fun W hW => hTC gf W (hF.at hW)) rfl).mono ?_
    rintro e w1 ⟨rfl, LB⟩
    have c33 := h33 ▸ uu_mm (Cg.refl (uu z1)) (Cg.refl (uu z1))
    have c39 := h39 ▸ uu_mm (Cg.refl (uu z2)) (Cg.refl (uu z2))
    have c44 := h44 ▸ uu_mm (Cg.refl (uu x1)) c39
    have c49 := h49 ▸ uu_mm (Cg.refl (uu x2)) c33
    have c57 := h57 ▸ uu_mm c39 (Cg.refl (uu z2))
    have c58 := h58 ▸ uu_mm (Cg.refl (uu y1)) c57
    have c66 := h66 ▸ uu_mm c33 (Cg.refl (uu z1))
    have c67 := h67 ▸ uu_mm (Cg.refl (uu y2)) c66
    have c71 := h71 ▸ uu_ps c49 c44
    have c75 := h75 ▸ uu_ps c67 c58
    have c96 := h96 ▸ uu_mm c71 c71
    have c100 := h100 ▸ uu_mm c96 c71
    have c104 := h104 ▸ uu_mm c44 c96
    have c110 := h110 ▸ uu_mm c75 c75
    have c112 := h112 ▸ uu_ps c110 c100
    have c116 := h116 ▸ uu_pa c104 c104
    have c117 := h117 ▸ uu_ps c112 c116
    have c124 := h124 ▸ uu_ps c104 c117
    have c125 := h125 ▸ uu_mm c75 c124
    have c129 := h129 ▸ uu_mm c58 c100
    have c130 := h130 ▸ uu_ps c125 c129
    have c140 := h140 ▸ uu_mm (Cg.refl (uu z1)) (Cg.refl (uu z2))
    have c141 := h141 ▸ uu_mm c71 c140
    have bH : Nb v71 := by rw [← h71]; exact ps_bd _ _
    have bR : Nb v75 := by rw [← h75]; exact ps_bd _ _
    have bX : Nb v117 := by rw [← h117]; exact ps_bd _ _
    have bY : Nb v130 := by rw [← h130]; exact ps_bd _ _
    have bZ : Nb v141 := by rw [← h141]; exact mm_bd _ _
    clear h33 h39 h44 h49 h57 h58 h66 h67 h71 h75 h96 h100 h104 h110 h112 h116 h117 h124 h125 h129 h130 h140 h141
    have cH : Cg (uu v71) (kH (uu x1) (uu z1) (uu x2) (uu z2)) := c71.trans (Cg.of_eq (by unfold kH; rfl))
    have cR' : Cg (uu v75) (kR (uu y1) (uu z1) (uu y2) (uu z2)) := c75.trans (Cg.of_eq (by unfold kR; rfl))
    have zH : v71 = 0 ↔ a = c := (uu_zero bH).symm.trans (Iff.trans ⟨fun h => cH.symm.d h, fun h => cH.d h⟩ (kH_zero h1.ok h2.ok h1.rep h2.rep))
    have zR : v75 = 0 ↔ b = d := (uu_zero bR).symm.trans (Iff.trans ⟨fun h => cR'.symm.d h, fun h => cR'.d h⟩ (kR_zero h1.ok h2.ok h1.rep h2.rep))
    by_cases hh : v71 = 0
    · have ha := zH.1 hh
      subst ha
      rw [if_pos hh]
      by_cases hr : v75 = 0
      · have hb := zR.1 hr
        subst hb
        rw [if_pos hr]
        exact ⟨_, _, _, rfl, hTR, LB⟩
      · rw [if_neg hr, padd_across (fun e => hr (zR.2 e))]
        exact ⟨_, _, _, rfl, far_rep, LB⟩
    · rw [if_neg hh]
      refine ⟨_, _, _, rfl, ⟨bX, bY, bZ, padd_ok h1.ok h2.ok, ?_⟩, LB⟩
      have R := repJ_sum h1.ok h2.ok h1.rep h2.rep (fun e => hh (zH.2 e))
      clear c33 c39 c44 c49 c57 c58 c66 c67 c71 c75 c96 c100 c104 c110 c112 c116 c124 c125 c129 c140
      refine repJ_cg (c117.trans (Cg.of_eq ?_)) (c130.trans (Cg.of_eq ?_)) (c141.trans (Cg.of_eq ?_)) R
      · clear c117 c130 c141 R h1 h2 cH cR' zH zR hTR hTC
        generalize uu x1 = X1, uu y1 = Y1, uu z1 = Z1, uu x2 = X2, uu y2 = Y2, uu z2 = Z2
        unfold kX kH kR
        grind
      · clear c117 c130 c141 R h1 h2 cH cR' zH zR hTR hTC
        generalize uu x1 = X1, uu y1 = Y1, uu z1 = Z1, uu x2 = X2, uu y2 = Y2, uu z2 = Z2
        unfold kY kX kH kR
        grind
      · clear c117 c130 c141 R h1 h2 cH cR' zH zR hTR hTC
        generalize uu x1 = X1, uu y1 = Y1, uu z1 = Z1, uu x2 = X2, uu y2 = Y2, uu z2 = Z2
        unfold kZ kH
        grind

end Go.Proofs.YtcijjmncilciiaaDoor

namespace Go.Proofs.YtcijjmncilciiaaDoor
open Go.RowKit Go.IntWalk

theorem rpt_inf {T : TypeId} {w : World} {g : Nat} {X Y : List Int} {f : Bool} (hX : X.length = 32) (hY : Y.length = 32) (h : Blk T w g (pL X Y f)) : w.cell? ⟨g, 64, none⟩ = some (.bool f) := by
  rw [h.cell]
  simp [pL, hX, hY]
theorem rfromN {X : List Int} (hX : X.length = 32) (dX : Dg 256 X) (h : Nb (dn X)) (w : World) : Calls Tryd.prog 37 #[.agg (bV X).toArray] w (Ans (.agg (fL (dn X)).toArray) w) := by
  refine (rfrom_any X dX hX w).mono ?_
  rintro e w1 ⟨R, rfl, hR, LB⟩
  rw [fw_fL hR h]
  exact ⟨rfl, LB⟩
theorem rtoN {x : Int} (h : Nb x) (w : World) : Calls Tryd.prog 33 #[.agg (fL x).toArray] w (Ans (.agg (bV (be x)).toArray) w) := rto_any _ x (fw_nb h) w
theorem stR {T : TypeId} {w : World} {g : Nat} {Z : List Value} {X Y : List Int} {f : Bool} (h : Blk T w g Z) (hZ : Z.length = 65) (hX : X.length = 32) (hY : Y.length = 32) : (stA 33 (.pointer (some ⟨g, 0, none⟩)) (.agg (pL X Y f).toArray)).run Tryd.prog w = .ok () (w.setCells g 0 (pL X Y f)) :=
  stA_all (by rw [pL_len hX hY]; exact info_rpt) h (by rw [hZ, pL_len hX hY]) (pL_one X Y f)
theorem nb_1 : Nb 1 := by unfold Nb; decide
theorem cw_1 : cw 1 = [1, 0, 0, 0, 0, 0, 0, 0] := by decide +kernel
theorem bdf1 (w : World) : (bdA 80 #[(0, .int .u64 1)]).run Tryd.prog w = .ok (.agg (fL 1).toArray) w := by unfold fL; rw [cw_1]; kernel_rfl

end Go.Proofs.YtcijjmncilciiaaDoor

namespace Go.Proofs.YtcijjmncilciiaaDoor
open Go.RowKit Go.IntWalk
attribute [local go_sem ↓] ld_F st_F eq_F bd_F

/-- The words of p - 2. -/
def eW8 : List Int := [4294967293, 4294967295, 4294967295, 0, 0, 0, 1, 4294967295]
def two8 : List Int := [2, 0, 0, 0, 0, 0, 0, 0]
theorem fw_eW8 : Fw eW8 (PP - 2) := ⟨rfl, by intro x hx; simp [eW8] at hx; omega, by decide⟩
theorem fw_two8 : Fw two8 2 := ⟨rfl, by intro x hx; simp [two8] at hx; omega, by decide⟩
theorem bdf2 (w : World) : (bdA 80 #[(0, .int .u64 2)]).run Tryd.prog w = .ok (.agg (fV two8).toArray) w := by kernel_rfl
theorem eBit : ∀ i, i < 256 → (eW8.getD (i / 32) 0) / 2 ^ (i % 32) % 2 = ((EE / 2 ^ i % 2 : Nat) : Int) := by decide +kernel
theorem eWord : ∀ q, q < 8 → 0 ≤ eW8.getD q 0 := by decide
theorem eDown (k : Nat) : EE / 2 ^ k = 2 * (EE / 2 ^ (k + 1)) + EE / 2 ^ k % 2 := by
  rw [Nat.pow_succ, ← Nat.div_div_eq_div_mul]
  omega
theorem eTop : EE / 2 ^ 256 = 0 := by decide +kernel
theorem eEnd : EE / 2 ^ 0 = EE := by rw [Nat.pow_zero, Nat.div_one]

set_option maxRecDepth 100000 in
set_option maxHeartbeats 2000000 in
theorem rinvN {gf : Nat} {x : Int} (hx : Nb x) (w : World) (hF : FF w gf) : Calls Tryd.prog 71 #[.pointer (some ⟨gf, 0, none⟩), .agg (fL x).toArray] w (Ans (.agg (fL (mpw x EE)).toArray) w) := by
  have HF := hide hF
  have HX := hide hx
  have o1 := fL_one x
  have hS : Bx w [(w.heap.size, 80, fL x), (w.heap.size + 1, 80, [.int .u64 0, .int .u64 0, .int .u64 0, .int .u64 0, .int .u64 0, .int .u64 0, .int .u64 0, .int .u64 0])] ((w.alloc (.cells (fL x).toArray 80)).alloc (.cells #[.int .u64 0, .int .u64 0, .int .u64 0, .int .u64 0, .int .u64 0, .int .u64 0, .int .u64 0, .int .u64 0] 80)) := ((Bx.nil w).newAt 0 (w.heap.size) (by simp) 80 (fL x) _ rfl).newAt 1 (w.heap.size + 1) (by simp) 80 _ _ rfl
  have HM : Hid (∀ W, Calls Tryd.prog 69 #[.agg (fV pW).toArray, .agg (fV two8).toArray] W (Rm PP 2 W)) := fun W => rminus_any pW two8 PP 2 fw_pW fw_two8 W
  have hbd := bdf2
  have hlm := (Fd.fm (hF.at hS.bl)).ld
  clear hF hx
  go_enter Tryd.func71, Tryd.ntmps71
  go_wp2_with fail
  refine (HM.out _).mono ?_
  rintro e U1 ⟨R, rfl, hR, LB⟩
  obtain rfl : R = eW8 := (hR.inj fw_eW8).2 (by decide)
  have hS := hS.below LB
  clear LB hR hlm hbd HM o1
  have hst := st8n U1 eW8 rfl
  have hS' : Bx w [(w.heap.size, 80, fL x), (w.heap.size + 1, 80, [.int .u64 0, .int .u64 0, .int .u64 0, .int .u64 0, .int .u64 0, .int .u64 0, .int .u64 0, .int .u64 0]), (U1.heap.size, 80, fV eW8)] (U1.alloc (.cells (fV eW8).toArray 80)) := hS.newAt 2 U1.heap.size rfl 80 (fV eW8) _ rfl
  clear hS
  have hS := hS'
  clear hS'
  go_upto_region 2 with fail
  generalize U1.alloc (.cells (fV eW8).toArray 80) = U2 at hS ⊢
  generalize U1.heap.size = g5 at hS ⊢
  clear hst
  have hl1 := (HF.out.at hS.bl).ld1
  have hst := stfn U2 ONE
  have hS' : Bx w [(w.heap.size, 80, fL x), (w.heap.size + 1, 80, [.int .u64 0, .int .u64 0, .int .u64 0, .int .u64 0, .int .u64 0, .int .u64 0, .int .u64 0, .int .u64 0]), (g5, 80, fV eW8), (U2.heap.size, 80, fL ONE)] (U2.alloc (.cells (fL ONE).toArray 80)) := hS.newAt 3 U2.heap.size rfl 80 (fL ONE) _ rfl
  clear hS
  have hS := hS'
  clear hS'
  go_upto_region 3 with fail
  generalize U2.alloc (.cells (fL ONE).toArray 80) = U3 at hS ⊢
  generalize U2.heap.size = g7 at hS ⊢
  clear hst hl1
  have HS0 : Hid (Bx w [(w.heap.size, 80, fL x), (w.heap.size + 1, 80, [.int .u64 0, .int .u64 0, .int .u64 0, .int .u64 0, .int .u64 0, .int .u64 0, .int .u64 0, .int .u64 0]), (g5, 80, fV eW8), (g7, 80, fL (mpw x (EE / 2 ^ 256)))] U3) := by rw [eTop]; exact hS
  clear hS
  go_wp2
  go_loopw [8] (fun iv wr => ∃ (k : Nat), iv = .int .i64 ((k : Int) - 1) ∧ k ≤ 256 ∧ Hid (Bx w [(w.heap.size, 80, fL x), (w.heap.size + 1, 80, [.int .u64 0, .int .u64 0, .int .u64 0, .int .u64 0, .int .u64 0, .int .u64 0, .int .u64 0, .int .u64 0]), (g5, 80, fV eW8), (g7, 80, fL (mpw x (EE / 2 ^ k)))] wr)) (fun iv _ => ((intOf iv) + 1).toNat)
  case atStart => exact ⟨256, rfl, by omega, HS0⟩
  case round =>
    clear HS0
    obtain ⟨k, rfl, hk, HS⟩ := hrel
    by_cases h0 : k = 0
    · subst h0
      obtain ⟨v, hv⟩ : ∃ v, mpw x EE = v := ⟨_, rfl⟩
      have hS := HS.out
      rw [eEnd] at hS
      have HV := hide hv
      rw [hv] at hS
      clear hv
      have hl := ldf (hS.get 3 rfl)
      have hst := stf (hS.get 1 rfl) rfl v
      have hS' : Bx w [(w.heap.size, 80, fL x), (w.heap.size + 1, 80, fL v), (g5, 80, fV eW8), (g7, 80, fL v)] (wr.setCells (w.heap.size + 1) 0 (fL v)) := hS.setAt 1 (fL v) rfl rfl
      clear hS HS
      go_wp2
      generalize wr.setCells (w.heap.size + 1) 0 (fL v) = U9 at hS' ⊢
      refine bodyPost_ret (v := .agg (fL v).toArray) ?_ rfl ⟨by rw [HV.out], hS'.bl⟩
      exact res_one (T := 80) (p := 4) (ty := 80) (X := fL v) (by kernel_rfl) _ _ rfl Tryd.underlying80 rfl (by kernel_rfl) (hS'.get 1 rfl)
    · obtain ⟨i, rfl⟩ : ∃ i, k = i + 1 := ⟨k - 1, by omega⟩
      obtain ⟨N, hN⟩ : ∃ N, EE / 2 ^ (i + 1) = N := ⟨_, rfl⟩
      have hdn := eDown i
      rw [hN] at hdn
      have hbit := eBit i (by omega)
      obtain ⟨b, hb⟩ : ∃ b, EE / 2 ^ i % 2 = b := ⟨_, rfl⟩
      rw [hb] at hbit hdn
      have hb01 : b = 0 ∨ b = 1 := by omega
      have hS := HS.out
      rw [hN] at hS
      obtain ⟨q, hq⟩ : ∃ q, i / 32 = q := ⟨_, rfl⟩
      obtain ⟨r, hr⟩ : ∃ r, i % 32 = r := ⟨_, rfl⟩
      have hy0 := eWord q (by omega)
      have hcell : ∀ W, Blk 80 W g5 (fV eW8) → W.cell? ⟨g5, q, none⟩ = some (.int .u64 (eW8.getD q 0)) := fun W h => blk_cell h q (by show q < 8; omega)
      rw [hq, hr] at hbit
      obtain ⟨y, hy⟩ : ∃ y, eW8.getD q 0 = y := ⟨_, rfl⟩
      rw [hy] at hbit hcell hy0
      have hiv : ((i + 1 : Nat) : Int) - 1 = (i : Int) := by omega
      have td : Int.tdiv (i : Int) 32 = (q : Int) := by rw [Int.tdiv_eq_ediv_of_nonneg (by omega)]; omega
      have tm : Int.tmod (i : Int) 32 = (r : Int) := by rw [Int.tmod_eq_emod_of_nonneg (by omega)]; omega
      obtain ⟨z, hsh⟩ : ∃ z, y / 2 ^ r = z := ⟨_, rfl⟩
      rw [hsh] at hbit
      have z0 : 0 ≤ z := by rw [← hsh]; exact Int.ediv_nonneg hy0 (Int.pow_nonneg (by decide))
      have tz : Int.tmod z 2 = (b : Int) := by rw [Int.tmod_eq_emod_of_nonneg z0]; exact hbit
      have qb : (q : Int) ≤ 7 := by omega
      have rb : (r : Int) ≤ 31 := by omega
      have ib : (i : Int) ≤ 255 := by omega
      have HC := hide hcell
      have BN : Hid (Nb (mpw x N)) := mpw_bd _ _
      have BM2 : Hid (Nb (mpw x (2 * N))) := mpw_bd _ _
      have C1 : Hid (∀ W, Below w.heap.size w W → Calls Tryd.prog 40 #[.pointer (some ⟨gf, 0, none⟩), .agg (fL (mpw x N)).toArray, .agg (fL (mpw x N)).toArray] W (Ans (.agg (fL (mpw x (2 * N))).toArray) W)) := fun W hW => by rw [← mpw_dbl]; exact rmulN BN.out BN.out W (HF.out.at hW)
      have C2 : Hid (∀ W, Below w.heap.size w W → Calls Tryd.prog 40 #[.pointer (some ⟨gf, 0, none⟩), .agg (fL (mpw x (2 * N))).toArray, .agg (fL x).toArray] W (Ans (.agg (fL (mpw x (2 * N + 1))).toArray) W)) := fun W hW => rmulN BM2.out HX.out W (HF.out.at hW)
      have HD := hide hdn
      have hl := ldf (hS.get 3 rfl)
      clear hN hbit hb hq hr hy hdn HS hcell h0 hy0
      rw [hiv]
      go_wp2_with fail
      refine (C1.out _ hS.bl).mono ?_
      rintro e U1 ⟨rfl, LB⟩
      have hS := hS.below LB
      clear LB hl
      have hst := stf (hS.get 3 rfl) rfl (mpw x (2 * N))
      have hS' : Bx w [(w.heap.size, 80, fL x), (w.heap.size + 1, 80, [.int .u64 0, .int .u64 0, .int .u64 0, .int .u64 0, .int .u64 0, .int .u64 0, .int .u64 0, .int .u64 0]), (g5, 80, fV eW8), (g7, 80, fL (mpw x (2 * N)))] (U1.setCells g7 0 (fL (mpw x (2 * N)))) := hS.setAt 3 (fL (mpw x (2 * N))) rfl rfl
      clear hS
      have hS := hS'
      clear hS'
      go_upto_region 7 with fail
      generalize U1.setCells g7 0 (fL (mpw x (2 * N))) = U2 at hS ⊢
      clear hst
      have hc := HC.out _ (hS.get 2 rfl)
      have hl3 := ldf (hS.get 3 rfl)
      have hl0 := ldf (hS.get 0 rfl)
      rcases hb01 with rfl | rfl
      · go_wp2
        go_roundw
        case rel => exact ⟨i, by go_num, by omega, by unfold Hid; rw [HD.out]; exact hS⟩
        case measure => simp [intOf]
      · go_wp2_with fail
        refine (C2.out _ hS.bl).mono ?_
        rintro e U3 ⟨rfl, LB⟩
        have hS := hS.below LB
        clear LB hl3 hl0 hc
        have hst := stf (hS.get 3 rfl) rfl (mpw x (2 * N + 1))
        have hS' : Bx w [(w.heap.size, 80, fL x), (w.heap.size + 1, 80, [.int .u64 0, .int .u64 0, .int .u64 0, .int .u64 0, .int .u64 0, .int .u64 0, .int .u64 0, .int .u64 0]), (g5, 80, fV eW8), (g7, 80, fL (mpw x (2 * N + 1)))] (U3.setCells g7 0 (fL (mpw x (2 * N + 1)))) := hS.setAt 3 (fL (mpw x (2 * N + 1))) rfl rfl
        clear hS
        have hS := hS'
        clear hS'
        go_wp2
        go_roundw
        case rel => exact ⟨i, by go_num, by omega, by unfold Hid; rw [HD.out]; exact hS⟩
        case measure => simp [intOf]

end Go.Proofs.YtcijjmncilciiaaDoor
