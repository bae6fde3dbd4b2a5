/-
  der.Check's closure: its contract, by induction on how far it may still go down.
-/
import Derived.Test.YtdoijgkdmfchaaaVisit
namespace Go.Proofs.Ytdoijgkdmfchaaa
open Go.RowKit Go.IntWalk

/-- The place that stands beside the error's number: where the element ends, or where what is wrong begins. -/
def retPl (v : Vis) (p : Nat) : Int := if v.err = 0 then (p : Int) + (v.size : Int) else (v.place : Int)
def CountOk (v : Vis) (c c' : Int) : Prop := v.err = 0 → c' = c + (v.many : Int)

/-- What the closure's contract says at d. -/
def VisitAt (bd bb bc bv D : Nat) (ab : Option Addr) (n cap : Nat) (bs : List Int) (d : Nat) : Prop :=
  ∀ (p e lvl : Nat) (P E L : Int) (c : Int) (W : World), P = (p : Int) → E = (e : Int) → L = (lvl : Int) → CInv W bd bb bc bv (D : Int) ab n cap bs c → lvl + d = D + 1 → p ≤ e → e ≤ n → 0 ≤ c → c + ((e : Int) - (p : Int)) ≤ 4611686018427387904 →
    Calls Try.prog 38 #[.int .i64 P, .int .i64 E, .int .i64 L, .pointer (some ⟨bd, 0, none⟩), .pointer (some ⟨bb, 0, none⟩), .pointer (some ⟨bc, 0, none⟩), .pointer (some ⟨bv, 0, none⟩)] W fun r W' =>
      ∃ pl err : Int, r = .returned (.tuple #[.int .i64 pl, .int .i64 err]) ∧ Hid (err = (visS d ((bs.take e).drop p) p).err) ∧ Hid (pl = retPl (visS d ((bs.take e).drop p) p) p) ∧
        ∃ c' : Int, CInv W' bd bb bc bv (D : Int) ab n cap bs c' ∧ W.grownBy W' (some bc) ∧ CountOk (visS d ((bs.take e).drop p) p) c c'

theorem cut_cut (bs : List Int) (p e l h q : Nat) (h1 : p + h ≤ e) (hlq : l ≤ q) :
    ((((bs.take e).drop p).take h).drop l).drop (q - l) = (bs.take (p + h)).drop (p + q) := by
  rw [List.drop_drop, List.take_drop, List.drop_drop, List.take_take]
  rw [show min (p + h) e = p + h by omega, show p + (l + (q - l)) = p + q by omega]


set_option maxRecDepth 100000 in
set_option maxHeartbeats 4000000 in
theorem visit_any (bd bb bc bv D : Nat) (ab : Option Addr) (n cap : Nat) (bs : List Int) (hD : D ≤ 64) (hN : (n : Int) ≤ 140737488355328) : ∀ d, VisitAt bd bb bc bv D ab n cap bs d := by
  intro d
  induction d with
  | zero =>
    intro p e lvl P E L c W hP hE hL hI hl hpe hen hc0 hcb
    subst hP hE hL
    have e0 := hI.d0
    have hlt : (D : Int) < (lvl : Int) := by omega
    go_enter Try.func38, Try.ntmps38
    go_wp2
    go_ret2
    exact ⟨_, _, rfl, by simp [Hid, visS], by simp [Hid, visS, retPl], c, hI, World.grownBy.refl _ _, by simp [CountOk, visS]⟩
  | succ d ih =>
    intro p e lvl P E L c W hP hE hL hI hl hpe hen hc0 hcb
    subst hP hE hL
    have IH := hide ih
    clear ih
    have e0 := hI.d0
    have e1 := hI.b0
    have hlt : ¬ (D : Int) < (lvl : Int) := by omega
    have hnc := hI.src.hcap
    have hs1 := hI.src.cut p e hpe hen
    have sl := fun X => slice_lh X ab n cap p e p e rfl rfl hpe (by omega)
    generalize cutA ab cap p = A at hs1 sl
    have hlen := hide hs1.hlen
    rcases findS_cases ((bs.take e).drop p) hs1.hbyt with ⟨err, h1, h2, h3, he⟩ | ⟨l, h, he, h1, h2, h3, h4, h5⟩
    · have HV := hide (vis_bad d _ p err he h1)
      have HE := hide he
      have h1' : (err != 0) = true := by simpa using h1
      have H1 := hide h1
      have t := (0 : Int)
      clear he h1
      go_enter Try.func38, Try.ntmps38
      go_wp2_with (go_at_call 33; refine (find_any _ _ _ ((bs.take e).drop p) _ (by exact hs1) (by omega)).mono ?_; rintro r w1 ⟨rfl, B1⟩; rw [HE.out]; unfold spanV)
      go_ret2
      refine ⟨_, _, rfl, by unfold Hid; rw [HV.out], by unfold Hid; rw [HV.out]; simp [retPl, H1.out], c, (hI.below B1).alloc _, grown_trans (grown_of_below B1) (World.grownBy_alloc _ _ _), by rw [HV.out]; intro h; exact absurd h H1.out⟩
    · have htb := hs1.byte 0
      rw [hs1.hlen] at h4
      generalize ht : ((bs.take e).drop p).getD 0 0 = t at he htb
      clear ht
      obtain ⟨t0, t1⟩ := htb
      have HE := hide he
      cases hC : consB t with
      | false =>
        have HV := hide (vis_plain d _ p t l h he hC)
        have HC := hide hC
        clear he hC
        go_enter Try.func38, Try.ntmps38
        go_wp2_with (first | (go_at_call 33; refine (find_any _ _ _ ((bs.take e).drop p) _ (by exact hs1) (by omega)).mono ?_; rintro r w1 ⟨rfl, B1⟩; rw [HE.out]; unfold spanV; have I1 := hI.below B1; have g0 := I1.k0; have g1 := I1.fz; have g2 := I1.lt; have g3 : ¬ w1.heap.size = bc := (by omega); have g4 : ¬ bc = w1.heap.size := (by omega)) | (go_at_call 39; refine (cons_any t _ _ _ t0 t1).mono ?_; rintro r w2 ⟨rfl, B2⟩; rw [HC.out]; have y1 : w2.cell? ⟨w1.heap.size, 1, none⟩ = some (.int .i64 l) := ((B2.cell (p := ⟨w1.heap.size, 1, none⟩) (by simp)).trans (cell_new _ _ _ _ 1 (by simp)))))
        go_ret2
        have I2 := (((I1.count (c + 1)).1).alloc (.cells #[.int .i64 t, .int .i64 l, .int .i64 h] 70)).below B2
        have G2 : W.grownBy w2 (some bc) := grown_trans (grown_trans (grown_of_below B1) (I1.count (c + 1)).2) (grown_trans (World.grownBy_alloc _ _ _) (grown_of_below B2))
        exact ⟨_, _, rfl, by unfold Hid; rw [HV.out], by unfold Hid; rw [HV.out]; simp [retPl], c + 1, I2, G2, by rw [HV.out]; intro _; simp⟩
      | true =>
        have HV := hide (vis_deep d _ p t l h he hC)
        have HC := hide hC
        have hcc := hide (fun q (hq : l ≤ q) => cut_cut bs p e l h q (by omega) hq)
        have hcl : Hid (((((bs.take e).drop p).take h).drop l).length = h - l) := by
          unfold Hid
          rw [List.length_drop, List.length_take, hs1.hlen]
          omega
        have hcb' := hide (show ∀ x ∈ ((((bs.take e).drop p).take h).drop l), 0 ≤ x ∧ x < 256 from fun x hx => hs1.hbyt x (List.mem_of_mem_take (List.mem_of_mem_drop hx)))
        generalize hcont : ((((bs.take e).drop p).take h).drop l) = cont at HV hcc hcl hcb'
        clear he hC hcont
        go_enter Try.func38, Try.ntmps38
        go_wp2_with (first | (go_at_call 33; refine (find_any _ _ _ ((bs.take e).drop p) _ (by exact hs1) (by omega)).mono ?_; rintro r w1 ⟨rfl, B1⟩; rw [HE.out]; unfold spanV; have I1 := hI.below B1; have g0 := I1.k0; have g1 := I1.fz; have g2 := I1.lt; have g3 : ¬ w1.heap.size = bc := (by omega); have g4 : ¬ bc = w1.heap.size := (by omega)) | (go_at_call 39; refine (cons_any t _ _ _ t0 t1).mono ?_; rintro r w2 ⟨rfl, B2⟩; rw [HC.out]; have y1 : w2.cell? ⟨w1.heap.size, 1, none⟩ = some (.int .i64 l) := ((B2.cell (p := ⟨w1.heap.size, 1, none⟩) (by simp)).trans (cell_new _ _ _ _ 1 (by simp)))))
        have I2 := (((I1.count (c + 1)).1).alloc (.cells #[.int .i64 t, .int .i64 l, .int .i64 h] 70)).below B2
        have G2 : W.grownBy w2 (some bc) := grown_trans (grown_trans (grown_of_below B1) (I1.count (c + 1)).2) (grown_trans (World.grownBy_alloc _ _ _) (grown_of_below B2))
        clear y1 g0 g1 g2 g3 g4 I1 B1 B2
        go_loopw [0, 13] (fun s r wr => ∃ (q m1 : Nat) (c1 : Int), l ≤ q ∧ q ≤ h ∧ s = .int .i64 ((p : Int) + (q : Int)) ∧ r = .int .i64 0 ∧ CInv wr bd bb bc bv (D : Int) ab n cap bs c1 ∧ W.grownBy wr (some bc) ∧ Hid (c1 = c + 1 + (m1 : Int)) ∧ m1 + l ≤ q ∧
            Hid (rowR (visS d) cont (p + l) = (m1 + (rowR (visS d) (cont.drop (q - l)) (p + q)).1, (rowR (visS d) (cont.drop (q - l)) (p + q)).2))) (fun s _ _ => p + h - (intOf s).toNat)
        case atStart => exact ⟨l, 0, c + 1, Nat.le_refl _, h3, rfl, rfl, I2, G2, by simp [Hid], by omega, by simp [Hid]⟩
        case round =>
          obtain ⟨q, m1, c1, hq1, hq2, rfl, rfl, I3, G3, hc1, hm1, hrow⟩ := hrel
          by_cases hlt2 : q < h
          · have hltI : (p : Int) + (q : Int) < (p : Int) + (h : Int) := by omega
            have f0 := I3.f0
            have e3 := hide (hcc.out q hq1)
            have hc1' := hc1.out
            go_wp2_with fail
            refine (IH.out (p + q) (p + h) (lvl + 1) _ _ _ c1 _ (by omega) (by omega) (by omega) I3 (by omega) (by omega) (by omega) (by omega) (by omega)).mono ?_
            rintro r w3 ⟨pl, err, rfl, herr, hpl, c2, I4, G4, hcok⟩
            have hfine := hide (vis_fine d (cont.drop (q - l)) (p + q) (fun x hx => hcb'.out x (List.mem_of_mem_drop hx)))
            have hdl : Hid ((cont.drop (q - l)).length ≠ 0) := by
              unfold Hid
              rw [List.length_drop, hcl.out]
              omega
            have hdl2 : Hid ((cont.drop (q - l)).length = h - q) := by
              unfold Hid
              rw [List.length_drop, hcl.out]
              omega
            rw [← e3.out] at herr hpl hcok
            by_cases hz : (visS d (cont.drop (q - l)) (p + q)).err = 0
            · have herr0 : err = 0 := by rw [herr.out]; exact hz
              subst herr0
              have hpl2 : pl = (p : Int) + ((q + (visS d (cont.drop (q - l)) (p + q)).size : Nat) : Int) := by
                rw [hpl.out]; unfold retPl; rw [if_pos hz]; omega
              have hgood := hide (rowR_good (visS d) (vis_fine d) (cont.drop (q - l)) (p + q) (fun x hx => hcb'.out x (List.mem_of_mem_drop hx)) hdl.out hz)
              have hf := hfine.out hz
              have hc2 := hide (hcok hz)
              generalize (visS d (cont.drop (q - l)) (p + q)).size = sz at *
              generalize (visS d (cont.drop (q - l)) (p + q)).many = mn at *
              rw [hdl2.out] at hf
              obtain ⟨hf1, hf2, hf3⟩ := hf
              subst hpl2
              clear herr hpl hcok hz hfine
              go_wp2
              go_roundw
              case rel =>
                refine ⟨q + sz, m1 + mn, c2, by omega, by omega, rfl, rfl, I4, grown_trans G3 G4, ?_, by omega, ?_⟩
                · unfold Hid; rw [hc2.out, hc1.out]; omega
                · unfold Hid
                  rw [hrow.out, hgood.out, List.drop_drop, show q - l + sz = q + sz - l by omega, show p + q + sz = p + (q + sz) by omega]
                  simp only [Prod.mk.injEq, and_true]
                  omega
              case measure => simp [intOf]; omega
            · have hbad := hide (rowR_bad (visS d) (cont.drop (q - l)) (p + q) hdl.out hz)
              have hz' : (err != 0) = true := by rw [herr.out]; simpa using hz
              have HVV : Hid (visS (d + 1) ((bs.take e).drop p) p = ⟨0, 0, (visS d (cont.drop (q - l)) (p + q)).place, (visS d (cont.drop (q - l)) (p + q)).err⟩) := by
                unfold Hid
                rw [HV.out, hrow.out, hbad.out]
                simp only []
                rw [if_pos hz]
              have HZ := hide hz
              clear hz hfine
              go_wp2
              go_ret2
              refine ⟨_, _, rfl, by unfold Hid; rw [HVV.out, herr.out], ?_, c2, I4, grown_trans G3 G4, by rw [HVV.out]; intro h; exact absurd h HZ.out⟩
              unfold Hid
              rw [hpl.out, HVV.out]
              unfold retPl
              rw [if_neg HZ.out, if_neg HZ.out]
          · obtain rfl : q = h := by omega
            have hnil := rowR_nil (visS d) (cont.drop (q - l)) (p + q) (by rw [List.length_drop, hcl.out]; omega)
            have HVV : Hid (visS (d + 1) ((bs.take e).drop p) p = ⟨1 + m1, q, 0, 0⟩) := by
              unfold Hid
              rw [HV.out, hrow.out, hnil]
              simp
            clear hnil
            go_wp2
            go_ret2
            exact ⟨_, _, rfl, by unfold Hid; rw [HVV.out], by unfold Hid; rw [HVV.out]; simp [retPl], c1, I3, G3, by rw [HVV.out]; intro _; rw [hc1.out]; simp; omega⟩

end Go.Proofs.Ytdoijgkdmfchaaa
