/-
  The reference's within answers as the plain function of the bytes says: by induction on how far it may still go down.
-/
import Derived.Test.YtdoijgkdmfchaaaCSpec
import Derived.Test.YtdoijgkdmfchaaaRTake
import Derived.Test.YtdoijgkdmfchaaaMore
namespace Go.Proofs.Ytdoijgkdmfchaaa
open Go.RowKit Go.IntWalk

def visV (v : Vis) : Value := .tuple #[.int .i64 v.many, .int .i64 v.size, .int .i64 v.place, .int .i64 v.err]

/-- What within's contract says at d. -/
def WithinAt (D d : Nat) : Prop :=
  ∀ (ao : Option Addr) (n cap : Nat) (xs : List Int) (p lvl : Nat) (P L E : Int) (W : World), P = (p : Int) → L = (lvl : Int) → E = (D : Int) → Src W ao n cap xs → (n : Int) ≤ 140737488355328 → (p : Int) + (n : Int) ≤ 140737488355328 → lvl + d = D + 1 →
    Calls Try.prog 40 #[.slice ao n cap, .int .i64 P, .int .i64 L, .int .i64 E] W fun r W' => r = .returned (visV (visS d xs p)) ∧ Below W.heap.size W W'


set_option maxRecDepth 100000 in
set_option maxHeartbeats 4000000 in
theorem within_any (D : Nat) (hD : D ≤ 64) : ∀ d, WithinAt D d := by
  intro d
  induction d with
  | zero =>
    intro ao n cap xs p lvl P L E W hP hL hE hs hN hpn hl
    subst hP hL hE
    have hlt : (D : Int) < (lvl : Int) := by omega
    go_enter Try.func40, Try.ntmps40
    go_wp2
    refine bodyPost_ret (v := visV (⟨0, 0, p, 14⟩)) (by simp [results, Try.results40, go_sem, visV]) rfl ⟨by rw [vis_zero], ?_⟩
    exact Below.refl _ _
  | succ d ih =>
    intro ao n cap xs p lvl P L E W hP hL hE hs hN hpn hl
    subst hP hL hE
    have IH := hide ih
    clear ih
    have hlt : ¬ (D : Int) < (lvl : Int) := by omega
    rcases findS_cases xs hs.hbyt with ⟨err, h1, h2, h3, he⟩ | ⟨l, h, he, h1, h2, h3, h4, h5⟩
    · have HV := hide (vis_bad d _ p err he h1)
      have HE := hide he
      have h1' : (err != 0) = true := by simpa using h1
      clear he h1
      go_enter Try.func40, Try.ntmps40
      go_wp2_with (go_at_call 16; refine (refTake_any _ _ _ xs _ (by exact hs) hN).mono ?_; rintro r w1 ⟨aX, mX, cX, rfl, hX, B1⟩; rw [HE.out])
      refine bodyPost_ret (v := visV (⟨0, 0, p, err⟩)) (by simp [results, Try.results40, go_sem, visV]) rfl ⟨by rw [HV.out], ?_⟩
      exact B1.alloc B1.size _
    · have htb := hs.byte 0
      have hcs : contS xs = (xs.take h).drop l := by unfold contS; rw [he]; simp
      rw [hs.hlen] at h4
      generalize ht : xs.getD 0 0 = t at he htb
      clear ht
      obtain ⟨t0, t1⟩ := htb
      have HE := hide he
      cases hC : consB t with
      | false =>
        have HV := hide (vis_plain d _ p t l h he hC)
        have hq : (t / 32 % 2 == 1) = false := by simpa [consB] using hC
        clear he hC
        go_enter Try.func40, Try.ntmps40
        go_wp2_with (go_at_call 16; refine (refTake_any _ _ _ xs _ (by exact hs) hN).mono ?_; rintro r w1 ⟨aX, mX, cX, rfl, hX, B1⟩; rw [HE.out])
        refine bodyPost_ret (v := visV (⟨1, h, 0, 0⟩)) (by simp [results, Try.results40, go_sem, visV]) rfl ⟨by rw [HV.out], ?_⟩
        exact B1.alloc B1.size _
      | true =>
        have HV := hide (vis_deep d _ p t l h he hC)
        have hq : (t / 32 % 2 == 1) = true := by simpa [consB] using hC
        have HCS := hide hcs
        have hcl : Hid (((xs.take h).drop l).length = h - l) := by
          unfold Hid
          rw [List.length_drop, List.length_take, hs.hlen]
          omega
        have hcb := hide (show ∀ x ∈ ((xs.take h).drop l), 0 ≤ x ∧ x < 256 from fun x hx => hs.hbyt x (List.mem_of_mem_take (List.mem_of_mem_drop hx)))
        generalize hcont : ((xs.take h).drop l) = cont at HV HCS hcl hcb
        clear he hC hcs hcont
        go_enter Try.func40, Try.ntmps40
        go_wp2_with (go_at_call 16; refine (refTake_any _ _ _ xs _ (by exact hs) hN).mono ?_; rintro r w1 ⟨aX, mX, cX, rfl, hX, B1⟩; rw [HE.out])
        rw [HCS.out] at hX
        have sX := hX.toSrc hcb.out
        have hmX : mX = h - l := by rw [← hcl.out, sX.hlen]
        have z1 := B1.size
        have BX := B1.alloc B1.size (.cells #[.int .i64 t, .slice aX mX cX] 38)
        have hHm := hide hmX
        clear hmX
        have hmI : (mX : Int) = (h : Int) - (l : Int) := by have := hHm.out; omega
        have HMI := hide hmI
        clear hmI
        go_loopw [15, 16] (fun s k wr => ∃ (q m1 : Nat), q ≤ mX ∧ s = .int .i64 (1 + (m1 : Int)) ∧ k = .int .i64 (q : Int) ∧ m1 ≤ q ∧ wr.cell? ⟨w1.heap.size, 1, none⟩ = some (.slice aX mX cX) ∧ w1.heap.size < wr.heap.size ∧ Src wr aX mX cX cont ∧ Below W.heap.size W wr ∧
            Hid (rowR (visS d) cont (p + l) = (m1 + (rowR (visS d) (cont.drop q) (p + l + q)).1, (rowR (visS d) (cont.drop q) (p + l + q)).2))) (fun _ k _ => mX - (intOf k).toNat)
        case atStart => exact ⟨0, 0, Nat.zero_le _, rfl, rfl, Nat.le_refl _, by simp, by simp, sX.alloc _, BX, by simp [Hid]⟩
        case round =>
          obtain ⟨q, m1, hq, rfl, rfl, hm1, hc1, hsz, sXr, hbel, hrow⟩ := hrel
          by_cases hlt2 : q < mX
          · have hltI : (q : Int) < (mX : Int) := by omega
            have i0 : (0 : Int) ≤ (q : Int) := by omega
            have i1 : (q : Int) ≤ (mX : Int) := by omega
            have hmh : mX ≤ h := by have := hHm.out; omega
            have sC := sXr.cut q mX hq (Nat.le_refl _)
            have sl := fun X => slice_lo X aX mX cX q q rfl hq
            generalize cutA aX cX q = A at sC sl
            have eT : (cont.take mX).drop q = cont.drop q := by rw [List.take_of_length_le (by rw [sX.hlen]; exact Nat.le_refl _)]
            rw [eT] at sC
            have j1 : IntKind.i64.wrap ((p : Int) + (h : Int)) = (p : Int) + (h : Int) := i64_in _ (by omega)
            have j2 : IntKind.i64.wrap ((p : Int) + (h : Int) - (mX : Int)) = (p : Int) + (h : Int) - (mX : Int) := i64_in _ (by omega)
            have j3 : IntKind.i64.wrap ((p : Int) + (h : Int) - (mX : Int) + (q : Int)) = (p : Int) + (h : Int) - (mX : Int) + (q : Int) := i64_in _ (by omega)
            have j4 : IntKind.i64.wrap ((lvl : Int) + 1) = (lvl : Int) + 1 := i64_in _ (by omega)
            have hPP : Hid ((p : Int) + (h : Int) - (mX : Int) + (q : Int) = ((p + l + q : Nat) : Int)) := by have := HMI.out; unfold Hid; omega
            clear eT
            go_wp2_with fail
            go_region_held3 (fun X => X.cell? ⟨w1.heap.size, 1, none⟩ = some (.slice aX mX cX)) (go_keep) (first | (go_at_call 40; refine (IH.out A (mX - q) (cX - q) (cont.drop q) (p + l + q) (lvl + 1) _ _ _ _ hPP.out ?_ rfl ?_ ?_ ?_ ?_).mono ?_; omega; exact sC.heap rfl; omega; (have := hHm.out; omega); omega; rintro r w2 ⟨rfl, B2⟩; unfold visV; have c2 : w2.cell? ⟨w1.heap.size, 1, none⟩ = some (.slice aX mX cX) := (B2.cell (p := ⟨w1.heap.size, 1, none⟩) hsz).trans hc1))
            have bW2 : Below W.heap.size W w2 := hbel.drew.trans (B2.mono hbel.size)
            have sX2 := sXr.belowH B2 rfl
            have z2 : w1.heap.size < w2.heap.size := Nat.lt_of_lt_of_le hsz B2.size
            have hdl : Hid ((cont.drop q).length ≠ 0) := by
              unfold Hid
              rw [List.length_drop, sX.hlen]
              omega
            have hdl2 : Hid ((cont.drop q).length = mX - q) := by
              unfold Hid
              rw [List.length_drop, sX.hlen]
            have hfine := hide (vis_fine d (cont.drop q) (p + l + q) (fun x hx => hcb.out x (List.mem_of_mem_drop hx)))
            by_cases hz : (visS d (cont.drop q) (p + l + q)).err = 0
            · have hgood := hide (rowR_good (visS d) (vis_fine d) (cont.drop q) (p + l + q) (fun x hx => hcb.out x (List.mem_of_mem_drop hx)) hdl.out hz)
              have hf := hfine.out hz
              have hz' : ((visS d (cont.drop q) (p + l + q)).err != 0) = false := by simpa using hz
              generalize (visS d (cont.drop q) (p + l + q)).size = sz at *
              generalize (visS d (cont.drop q) (p + l + q)).many = mn at *
              generalize (visS d (cont.drop q) (p + l + q)).err = er at *
              generalize (visS d (cont.drop q) (p + l + q)).place = plc at *
              rw [hdl2.out] at hf
              obtain ⟨hf1, hf2, hf3⟩ := hf
              clear hz hfine B2 hbel sXr
              go_wp2
              go_roundw
              case rel =>
                refine ⟨q + sz, m1 + mn, by omega, by go_num, by go_num, by omega, c2, z2, sX2, bW2, ?_⟩
                unfold Hid
                rw [hrow.out, hgood.out, List.drop_drop, show p + l + q + sz = p + l + (q + sz) by omega]
                simp only [Prod.mk.injEq, and_true]
                omega
              case measure => simp [intOf]; omega
            · have hbad := hide (rowR_bad (visS d) (cont.drop q) (p + l + q) hdl.out hz)
              have hz' : ((visS d (cont.drop q) (p + l + q)).err != 0) = true := by simpa using hz
              have HVV : Hid (visS (d + 1) xs p = ⟨0, 0, (visS d (cont.drop q) (p + l + q)).place, (visS d (cont.drop q) (p + l + q)).err⟩) := by
                unfold Hid
                rw [HV.out, hrow.out, hbad.out]
                simp only []
                rw [if_pos hz]
              clear hz hfine
              go_wp2
              refine bodyPost_ret (v := visV (⟨0, 0, (visS d (cont.drop q) (p + l + q)).place, (visS d (cont.drop q) (p + l + q)).err⟩)) (by simp [results, Try.results40, go_sem, visV]) rfl ⟨by rw [HVV.out], ?_⟩
              exact bW2
          · obtain rfl : q = mX := by omega
            have hnil := rowR_nil (visS d) (cont.drop q) (p + l + q) (by rw [List.length_drop, sX.hlen]; omega)
            have HVV : Hid (visS (d + 1) xs p = ⟨1 + m1, h, 0, 0⟩) := by
              unfold Hid
              rw [HV.out, hrow.out, hnil]
              simp
            clear hnil
            go_wp2
            refine bodyPost_ret (v := visV (⟨1 + m1, h, 0, 0⟩)) (by simp [results, Try.results40, go_sem, visV]) rfl ⟨by rw [HVV.out], ?_⟩
            exact hbel

end Go.Proofs.Ytdoijgkdmfchaaa
