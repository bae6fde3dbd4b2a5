/-
  within.bit: does a bit of bytes stand?
  within's halves: a network's address and its mask.
  within's questions of networks: isNet.
  within's questions of networks: hasAddress.
  within.meets: what holds answers is handed in.
-/
import Derived.Test.YtklchpdpooikdaaGreatDoorXWiAll2ToWiMail
import Derived.Test.YtklchpdpooikdaaGreatDoorXHoLToBoxSt
import Derived.RegionTactic
namespace Go.Proofs.YtklchpdpooikdaaGreatDoor
open Go.RowKit Go.Shelf Go.IntWalk

def bitB (l : List UInt8) (i : Nat) : Bool := decide ((l.getD (i / 8) 0).toNat / 2 ^ (7 - i % 8) % 2 = 1)

set_option maxRecDepth 100000 in
theorem and_one (n : Nat) (h : n < 256) : bits .and .u8 (n : Int) 1 = ((n % 2 : Nat) : Int) := (show ∀ k : Fin 256, bits .and .u8 ((k.val : Nat) : Int) 1 = ((k.val % 2 : Nat) : Int) by decide +kernel) ⟨n, h⟩
theorem get_tx (l : List UInt8) (k : Nat) (h : k < (tx l).size) : (tx l)[k]'h = l.getD k 0 := by
  have h2 : k < l.length := by rw [tx_size] at h; exact h
  rw [List.getD, List.getElem?_eq_getElem h2]
  rfl
theorem bit_fact (l : List UInt8) (i : Nat) (h : i / 8 < (tx l).size) : (bits .and .u8 ((((tx l)[i / 8]'h).toNat : Int) / 2 ^ (7 - i % 8)) 1 == 1) = bitB l i := by
  rw [get_tx]
  unfold bitB
  generalize hx : (l.getD (i / 8) 0).toNat = x
  have hx2 : x < 256 := by rw [← hx]; exact (l.getD (i / 8) 0).toNat_lt
  have e : ((x : Int) / 2 ^ (7 - i % 8)) = ((x / 2 ^ (7 - i % 8) : Nat) : Int) := by push_cast; rfl
  have hle : x / 2 ^ (7 - i % 8) ≤ x := Nat.div_le_self _ _
  rw [e, and_one _ (by omega)]
  generalize x / 2 ^ (7 - i % 8) = y
  rw [Bool.eq_iff_iff]
  simp
  omega
set_option maxRecDepth 100000 in
theorem bit_any (l : List UInt8) (i : Nat) (hi : i < 8 * l.length) (hl : l.length ≤ 1048576) (w : World) :
    Calls Tryz.prog 112 #[.string (tx l), .int .i64 i] w fun e w' => e = .returned (.bool (bitB l i)) ∧ w' = w := by
  have hz := tx_size l
  have h1 : i / 8 < (tx l).size := by rw [hz]; omega
  have h2 : ((i / 8 : Nat) : Int) < ((tx l).size : Int) := by omega
  have h3 : (i : Int) ≤ 8388608 := by omega
  go_enter Tryz.func112, Tryz.ntmps112
  go_wp2
  go_ret
  exact ⟨by rw [← bit_fact l i h1]; rfl, rfl⟩

end Go.Proofs.YtklchpdpooikdaaGreatDoor

namespace Go.Proofs.YtklchpdpooikdaaGreatDoor
open Go.RowKit Go.Shelf Go.IntWalk

theorem extract_lo (l : List UInt8) (h : Nat) : (tx l).extract 0 h = tx (l.take h) := by
  rw [cut_textH]
  unfold cutH
  simp [tx]
theorem extract_hi (l : List UInt8) (h : Nat) : (tx l).extract h l.length = tx (l.drop h) := by
  rw [cut_textH]
  unfold cutH
  simp [tx]
set_option maxRecDepth 100000 in
set_option maxHeartbeats 1000000 in
theorem halves_any (l : List UInt8) (hl : l.length ≤ 1048576) (w : World) :
    Calls Tryz.prog 111 #[.string (tx l)] w fun e w' => e = .returned (.tuple #[.string (tx (l.take (l.length / 2))), .string (tx (l.drop (l.length / 2)))]) ∧ Below w.heap.size w w' := by
  have hz := tx_size l
  have h2 : l.length / 2 ≤ (tx l).size := by rw [hz]; omega
  have h2I : ((l.length / 2 : Nat) : Int) ≤ ((tx l).size : Int) := by omega
  have h3 : ((tx l).size : Int) = (l.length : Int) := by rw [hz]
  go_enter Tryz.func111, Tryz.ntmps111
  go_wp2_with fail
  go_region
  all_goals
    go_wp2
    rw [extract_lo, extract_hi]
    refine bodyPost_ret (v := .tuple #[.string (tx (l.take (l.length / 2))), .string (tx (l.drop (l.length / 2)))]) (by simp [results, Tryz.results111, go_sem]) rfl ⟨rfl, (Below.refl _ w).drew⟩

end Go.Proofs.YtklchpdpooikdaaGreatDoor

namespace Go.Proofs.YtklchpdpooikdaaGreatDoor
open Go.RowKit Go.Shelf Go.IntWalk

/-- Did the mask's 1 bits end ahead of i? -/
def endB (mask : List UInt8) (i : Nat) : Bool := decide (0 < i) && !bitB mask (i - 1)
/-- May the bits at i stand so? -/
def okB (addr mask : List UInt8) (i : Nat) : Bool := !(bitB mask i && endB mask i) && !(!bitB mask i && bitB addr i)
/-- Is it right from i on, n bits more? -/
def netG (addr mask : List UInt8) : Nat → Nat → Bool
  | _, 0 => true
  | i, n + 1 => okB addr mask i && netG addr mask (i + 1) n
/-- May a subtree of network addresses have this Base? -/
def isNetL (b : List UInt8) : Bool := ipL (b.take (b.length / 2)) && (decide ((b.drop (b.length / 2)).length = (b.take (b.length / 2)).length) && netG (b.take (b.length / 2)) (b.drop (b.length / 2)) 0 (8 * (b.drop (b.length / 2)).length))

set_option maxRecDepth 100000 in
set_option maxHeartbeats 4000000 in
theorem isNet_any (b : List UInt8) (hb : b.length ≤ 1048576) (w : World) :
    Calls Tryz.prog 80 #[.string (tx b)] w fun e w' => e = .returned (.bool (isNetL b)) ∧ Below w.heap.size w w' := by
  have hH := hide (fun W => halves_any b hb W)
  have hR : Hid (isNetL b = (ipL (b.take (b.length / 2)) && (decide ((b.drop (b.length / 2)).length = (b.take (b.length / 2)).length) && netG (b.take (b.length / 2)) (b.drop (b.length / 2)) 0 (8 * (b.drop (b.length / 2)).length)))) := rfl
  have hla : (b.take (b.length / 2)).length ≤ 1048576 := by rw [List.length_take]; omega
  have hlm : (b.drop (b.length / 2)).length ≤ 1048576 := by rw [List.length_drop]; omega
  generalize isNetL b = R at hR ⊢
  generalize b.take (b.length / 2) = A at *
  generalize b.drop (b.length / 2) = M at *
  have hi := hide (fun W => ip_any A W)
  have zA := tx_size A
  have zM := tx_size M
  cases hq : ipL A with
  | false =>
    have hF : Hid (R = false) := by unfold Hid; rw [hR.out, hq]; rfl
    rw [hq] at hi
    go_enter Tryz.func80, Tryz.ntmps80
    go_wp2_with fail
    refine (hH.out _).mono ?_
    rintro e w1 ⟨rfl, B1⟩
    go_wp2_with fail
    refine (hi.out _).mono ?_
    rintro e w2 ⟨rfl, rfl⟩
    go_wp2
    go_ret
    exact ⟨by rw [hF.out]; rfl, B1⟩
  | true =>
    rw [hq] at hi
    by_cases hl : M.length = A.length
    · have hR2 : Hid (R = netG A M 0 (8 * M.length)) := by unfold Hid; rw [hR.out, hq, decide_eq_true hl]; rfl
      have hlI : ((tx M).size : Int) = ((tx A).size : Int) := by omega
      clear hR
      go_enter Tryz.func80, Tryz.ntmps80
      go_wp2_with fail
      refine (hH.out _).mono ?_
      rintro e w1 ⟨rfl, B1⟩
      go_wp2_with fail
      refine (hi.out _).mono ?_
      rintro e w2 ⟨rfl, hw⟩
      have hw2 := hw.symm
      subst hw2
      have HB := hide B1
      clear hw B1 hi hH hlI
      go_wp2
      go_loopw [5, 25] (fun ev v wr => ∃ (k : Nat) (ef : Bool), ev = .bool ef ∧ v = .int .i64 k ∧ k ≤ 8 * M.length ∧ Hid (R = netG A M k (8 * M.length - k)) ∧ Hid (ef = endB M k) ∧ Hid (Below w.heap.size w wr)) (fun _ v _ => 8 * M.length - (intOf v).toNat)
      case atStart => exact ⟨0, false, rfl, rfl, Nat.zero_le _, hR2.out, rfl, HB.out⟩
      case round =>
        obtain ⟨k, ef, rfl, rfl, hk, hE, hEF, hQ⟩ := hrel
        by_cases hlt : k < 8 * M.length
        · have ltI : (k : Int) < 8 * (M.length : Int) := by omega
          have hst : netG A M k (8 * M.length - k) = (okB A M k && netG A M (k + 1) (8 * M.length - (k + 1))) := by
            rw [show 8 * M.length - k = (8 * M.length - (k + 1)) + 1 by omega, netG]
          have d1 := hide (fun W => bit_any M k hlt hlm W)
          have d2 := hide (fun W => bit_any A k (by omega) hla W)
          have hN : endB M (k + 1) = !bitB M k := by unfold endB; simp
          have hOk : okB A M k = (!(bitB M k && ef) && !(!bitB M k && bitB A k)) := by unfold okB; rw [← hEF.out]
          generalize bitB M k = mk at d1 hN hOk
          generalize bitB A k = ak at d2 hOk
          rw [hst, hOk] at hE
          have HE := hide hE.out
          have HN := hide hN
          clear hst hOk hE hN hEF
          cases mk with
          | true =>
            cases ef with
            | true =>
              have hF : Hid (R = false) := by unfold Hid; rw [HE.out]; rfl
              go_wp2_with fail
              refine (d1.out _).mono ?_
              rintro e w1 ⟨rfl, hw1⟩
              have hw2 := hw1.symm
              subst hw2
              clear hw1
              go_wp2
              go_ret
              exact ⟨by rw [hF.out]; rfl, hQ.out⟩
            | false =>
              have hE2 : Hid (R = netG A M (k + 1) (8 * M.length - (k + 1))) := by unfold Hid; rw [HE.out]; simp
              have hN2 : Hid (false = endB M (k + 1)) := by unfold Hid; rw [HN.out]; rfl
              go_wp2_with fail
              refine (d1.out _).mono ?_
              rintro e w1 ⟨rfl, hw1⟩
              have hw2 := hw1.symm
              subst hw2
              clear hw1
              go_wp2_with fail
              refine (d1.out _).mono ?_
              rintro e w1 ⟨rfl, hw1⟩
              have hw2 := hw1.symm
              subst hw2
              clear hw1
              go_wp2_with fail
              refine (d1.out _).mono ?_
              rintro e w1 ⟨rfl, hw1⟩
              have hw2 := hw1.symm
              subst hw2
              clear hw1
              go_wp2
              go_roundw
              case rel => exact ⟨k + 1, false, rfl, by simp, by omega, hE2, hN2, hQ⟩
              case measure => simp [intOf]; omega
          | false =>
            cases ak with
            | true =>
              have hF : Hid (R = false) := by unfold Hid; rw [HE.out]; simp
              go_wp2_with fail
              refine (d1.out _).mono ?_
              rintro e w1 ⟨rfl, hw1⟩
              have hw2 := hw1.symm
              subst hw2
              clear hw1
              go_wp2_with fail
              refine (d1.out _).mono ?_
              rintro e w1 ⟨rfl, hw1⟩
              have hw2 := hw1.symm
              subst hw2
              clear hw1
              go_wp2_with fail
              refine (d2.out _).mono ?_
              rintro e w1 ⟨rfl, hw1⟩
              have hw2 := hw1.symm
              subst hw2
              clear hw1
              go_wp2
              go_ret
              exact ⟨by rw [hF.out]; rfl, hQ.out⟩
            | false =>
              have hE2 : Hid (R = netG A M (k + 1) (8 * M.length - (k + 1))) := by unfold Hid; rw [HE.out]; simp
              have hN2 : Hid (true = endB M (k + 1)) := by unfold Hid; rw [HN.out]; rfl
              go_wp2_with fail
              refine (d1.out _).mono ?_
              rintro e w1 ⟨rfl, hw1⟩
              have hw2 := hw1.symm
              subst hw2
              clear hw1
              go_wp2_with fail
              refine (d1.out _).mono ?_
              rintro e w1 ⟨rfl, hw1⟩
              have hw2 := hw1.symm
              subst hw2
              clear hw1
              go_wp2_with fail
              refine (d2.out _).mono ?_
              rintro e w1 ⟨rfl, hw1⟩
              have hw2 := hw1.symm
              subst hw2
              clear hw1
              go_wp2_with fail
              refine (d1.out _).mono ?_
              rintro e w1 ⟨rfl, hw1⟩
              have hw2 := hw1.symm
              subst hw2
              clear hw1
              go_wp2
              go_roundw
              case rel => exact ⟨k + 1, true, rfl, by simp, by omega, hE2, hN2, hQ⟩
              case measure => simp [intOf]; omega
        · have ltI : ¬ (k : Int) < 8 * (M.length : Int) := by omega
          have hF : Hid (R = true) := by unfold Hid; rw [hE.out, show 8 * M.length - k = 0 by omega, netG]
          go_wp2
          go_ret
          exact ⟨by rw [hF.out]; rfl, hQ.out⟩
    · have hF : Hid (R = false) := by unfold Hid; rw [hR.out, hq, decide_eq_false hl]; rfl
      have hlI : ¬ ((tx M).size : Int) = ((tx A).size : Int) := by omega
      go_enter Tryz.func80, Tryz.ntmps80
      go_wp2_with fail
      refine (hH.out _).mono ?_
      rintro e w1 ⟨rfl, B1⟩
      go_wp2_with fail
      refine (hi.out _).mono ?_
      rintro e w2 ⟨rfl, rfl⟩
      go_wp2
      go_ret
      exact ⟨by rw [hF.out]; rfl, B1⟩

end Go.Proofs.YtklchpdpooikdaaGreatDoor

namespace Go.Proofs.YtklchpdpooikdaaGreatDoor
open Go.RowKit Go.Shelf Go.IntWalk

/-- Is a byte, masked, the address's? -/
def mskB (A M s : List UInt8) (i : Nat) : Bool := bits .and .u8 ((s.getD i 0).toNat : Int) ((M.getD i 0).toNat : Int) == ((A.getD i 0).toNat : Int)
def adG (A M s : List UInt8) : Nat → Nat → Bool
  | _, 0 => true
  | i, n + 1 => mskB A M s i && adG A M s (i + 1) n
/-- Does a network address lie in a network? -/
def hasAddrL (b s : List UInt8) : Bool := decide (s.length = (b.take (b.length / 2)).length) && adG (b.take (b.length / 2)) (b.drop (b.length / 2)) s 0 (b.drop (b.length / 2)).length

set_option maxRecDepth 100000 in
set_option maxHeartbeats 4000000 in
theorem hasAddress_any (b s : List UInt8) (hb : b.length ≤ 1048576) (heq : (b.drop (b.length / 2)).length = (b.take (b.length / 2)).length) (w : World) :
    Calls Tryz.prog 81 #[.string (tx b), .string (tx s)] w fun e w' => e = .returned (.bool (hasAddrL b s)) ∧ Below w.heap.size w w' := by
  have hH := hide (fun W => halves_any b hb W)
  have hR : Hid (hasAddrL b s = (decide (s.length = (b.take (b.length / 2)).length) && adG (b.take (b.length / 2)) (b.drop (b.length / 2)) s 0 (b.drop (b.length / 2)).length)) := rfl
  have hlm : (b.drop (b.length / 2)).length ≤ 1048576 := by rw [List.length_drop]; omega
  generalize hasAddrL b s = R at hR ⊢
  generalize b.take (b.length / 2) = A at *
  generalize b.drop (b.length / 2) = M at *
  have zA := tx_size A
  have zM := tx_size M
  have zS := tx_size s
  by_cases hl : s.length = A.length
  · have hR2 : Hid (R = adG A M s 0 M.length) := by unfold Hid; rw [hR.out, decide_eq_true hl]; rfl
    have HEQ := hide heq
    have HL := hide hl
    have hlI : ((tx s).size : Int) = ((tx A).size : Int) := by omega
    clear hR heq hl
    go_enter Tryz.func81, Tryz.ntmps81
    go_wp2_with fail
    refine (hH.out _).mono ?_
    rintro e w1 ⟨rfl, B1⟩
    have HB := hide B1
    clear B1 hH
    go_wp2
    clear hlI
    go_loopw [20] (fun v wr => ∃ k : Nat, v = .int .i64 k ∧ k ≤ M.length ∧ Hid (R = adG A M s k (M.length - k)) ∧ Hid (Below w.heap.size w wr)) (fun v _ => M.length - (intOf v).toNat)
    case atStart => exact ⟨0, rfl, Nat.zero_le _, hR2.out, HB.out⟩
    case round =>
      obtain ⟨k, rfl, hk, hE, hQ⟩ := hrel
      by_cases hlt : k < M.length
      · have ltI : (k : Int) < (M.length : Int) := by omega
        have hst : adG A M s k (M.length - k) = (mskB A M s k && adG A M s (k + 1) (M.length - (k + 1))) := by
          rw [show M.length - k = (M.length - (k + 1)) + 1 by omega, adG]
        have kS : k < (tx s).size := by have := HEQ.out; have := HL.out; omega
        have kM : k < (tx M).size := by omega
        have kA : k < (tx A).size := by have := HEQ.out; omega
        have jS : (k : Int) < (s.length : Int) := by omega
        have jA : (k : Int) < (A.length : Int) := by omega
        have lS : k < s.length := by omega
        have lA : k < A.length := by omega
        have hm : mskB A M s k = (bits .and .u8 (((tx s)[k]'kS).toNat : Int) (((tx M)[k]'kM).toNat : Int) == (((tx A)[k]'kA).toNat : Int)) := by rw [get_tx, get_tx, get_tx]; rfl
        rw [hst] at hE
        cases hq : mskB A M s k with
        | true =>
          have hE2 : Hid (R = adG A M s (k + 1) (M.length - (k + 1))) := by unfold Hid; rw [hE.out, hq]; rfl
          rw [hq] at hm
          have hm2 := hm.symm
          clear hE hst hm hq
          go_wp2_with fail
          go_region
          all_goals
            go_wp2
            go_roundw
            case rel => exact ⟨k + 1, by simp, by omega, hE2, hQ.out.drew⟩
            case measure => simp [intOf]; omega
        | false =>
          have hF : Hid (R = false) := by unfold Hid; rw [hE.out, hq]; rfl
          rw [hq] at hm
          have hm2 := hm.symm
          clear hE hst hm hq
          go_wp2_with fail
          go_region
          all_goals
            go_wp2
            go_ret
            exact ⟨by rw [hF.out]; rfl, hQ.out.drew⟩
      · have ltI : ¬ (k : Int) < (M.length : Int) := by omega
        have hF : Hid (R = true) := by unfold Hid; rw [hE.out, show M.length - k = 0 by omega, adG]
        go_wp2
        go_ret
        exact ⟨by rw [hF.out]; rfl, hQ.out⟩
  · have hF : Hid (R = false) := by unfold Hid; rw [hR.out, decide_eq_false hl]; rfl
    have hlI : ¬ ((tx s).size : Int) = ((tx A).size : Int) := by omega
    go_enter Tryz.func81, Tryz.ntmps81
    go_wp2_with fail
    refine (hH.out _).mono ?_
    rintro e w1 ⟨rfl, B1⟩
    go_wp2
    go_ret
    exact ⟨by rw [hF.out]; rfl, B1⟩

end Go.Proofs.YtklchpdpooikdaaGreatDoor

namespace Go.Proofs.YtklchpdpooikdaaGreatDoor
open Go.RowKit Go.Shelf Go.IntWalk

set_option maxRecDepth 100000 in
set_option maxHeartbeats 2000000 in
theorem meets_kp (w0 : World) (kind : Int) (b : List UInt8) (gk : Int) (s : List UInt8) (H X : Bool) (m : Int) (w : World) (hm : Kp w0 m w)
    (h1 : ∀ W, Kp w0 m W → Calls Tryz.prog 20 #[.agg #[.int .i64 kind, .string (tx b)], .agg #[.int .i64 gk, .string (tx s)]] W fun e W' => e = .returned (.bool H) ∧ Below W.heap.size W W' ∧ Kp w0 m W')
    (h2 : kind = 2 → gk = 2 → ∀ W, Kp w0 m W → Calls Tryz.prog 33 #[.string (tx s), .string (tx b)] W fun e W' => e = .returned (.bool X) ∧ Kp w0 m W') :
    Calls Tryz.prog 23 #[.agg #[.int .i64 kind, .string (tx b)], .agg #[.int .i64 gk, .string (tx s)]] w fun e w' => e = .returned (.bool (H || (decide (kind = 2) && (decide (gk = 2) && X)))) ∧ Kp w0 m w' := by
  obtain ⟨R, hR⟩ : ∃ R, (H || (decide (kind = 2) && (decide (gk = 2) && X))) = R := ⟨_, rfl⟩
  rw [hR]
  have D1 := hide h1
  cases H with
  | true =>
    have hF : Hid (R = true) := by rw [← hR]; rfl
    clear h1 h2 hR
    have BX := (nbelowW w (boxS (kind) b)).trans ((nbelowW (w.alloc (boxS (kind) b)) (boxG (gk) s)).mono (by simp))
    have T0 := two_new w (kind) (gk) b s
    have KX := hide (hm.next BX)
    unfold boxS boxG at T0 KX
    clear BX
    go_enter Tryz.func23, Tryz.ntmps23
    have s0 := T0.s0
    have s1 := T0.s1
    have s2 := T0.g0
    have s3 := T0.g1
    go_wp2_with fail
    refine (D1.out _ KX.out).mono ?_
    rintro e w1 ⟨rfl, B1, K1⟩
    have T1 := T0.below B1
    clear T0 s0 s1 s2 s3 KX B1
    have r0 := T1.s0
    have r1 := T1.s1
    have r2 := T1.g0
    have r3 := T1.g1
    go_wp2
    go_ret
    exact ⟨by rw [hF.out]; rfl, K1⟩
  | false =>
    by_cases k2 : kind = 2
    · by_cases g2 : gk = 2
      · have hF : Hid (R = X) := by rw [← hR, decide_eq_true k2, decide_eq_true g2]; rfl
        have D2 := hide (h2 k2 g2)
        clear h1 h2 hR
        subst k2
        subst g2
        have BX := (nbelowW w (boxS (2) b)).trans ((nbelowW (w.alloc (boxS (2) b)) (boxG (2) s)).mono (by simp))
        have T0 := two_new w (2) (2) b s
        have KX := hide (hm.next BX)
        unfold boxS boxG at T0 KX
        clear BX
        go_enter Tryz.func23, Tryz.ntmps23
        have s0 := T0.s0
        have s1 := T0.s1
        have s2 := T0.g0
        have s3 := T0.g1
        go_wp2_with fail
        refine (D1.out _ KX.out).mono ?_
        rintro e w1 ⟨rfl, B1, K1⟩
        have T1 := T0.below B1
        clear T0 s0 s1 s2 s3 KX B1
        have r0 := T1.s0
        have r1 := T1.s1
        have r2 := T1.g0
        have r3 := T1.g1
        go_wp2_with fail
        refine (D2.out _ K1).mono ?_
        rintro e w2 ⟨rfl, K2⟩
        go_wp2
        go_ret
        exact ⟨by rw [hF.out]; simp, K2⟩
      · have hF : Hid (R = false) := by unfold Hid; rw [← hR, decide_eq_false g2]; simp
        clear h1 h2 hR
        subst k2
        have BX := (nbelowW w (boxS (2) b)).trans ((nbelowW (w.alloc (boxS (2) b)) (boxG (gk) s)).mono (by simp))
        have T0 := two_new w (2) (gk) b s
        have KX := hide (hm.next BX)
        unfold boxS boxG at T0 KX
        clear BX
        go_enter Tryz.func23, Tryz.ntmps23
        have s0 := T0.s0
        have s1 := T0.s1
        have s2 := T0.g0
        have s3 := T0.g1
        go_wp2_with fail
        refine (D1.out _ KX.out).mono ?_
        rintro e w1 ⟨rfl, B1, K1⟩
        have T1 := T0.below B1
        clear T0 s0 s1 s2 s3 KX B1
        have r0 := T1.s0
        have r1 := T1.s1
        have r2 := T1.g0
        have r3 := T1.g1
        go_wp2
        go_ret
        exact ⟨by rw [hF.out]; rfl, K1⟩
    · have hF : Hid (R = false) := by rw [← hR, decide_eq_false k2]; rfl
      clear h1 h2 hR
      have BX := (nbelowW w (boxS (kind) b)).trans ((nbelowW (w.alloc (boxS (kind) b)) (boxG (gk) s)).mono (by simp))
      have T0 := two_new w (kind) (gk) b s
      have KX := hide (hm.next BX)
      unfold boxS boxG at T0 KX
      clear BX
      go_enter Tryz.func23, Tryz.ntmps23
      have s0 := T0.s0
      have s1 := T0.s1
      have s2 := T0.g0
      have s3 := T0.g1
      go_wp2_with fail
      refine (D1.out _ KX.out).mono ?_
      rintro e w1 ⟨rfl, B1, K1⟩
      have T1 := T0.below B1
      clear T0 s0 s1 s2 s3 KX B1
      have r0 := T1.s0
      have r1 := T1.s1
      have r2 := T1.g0
      have r3 := T1.g1
      go_wp2
      go_ret
      exact ⟨by rw [hF.out]; rfl, K1⟩

end Go.Proofs.YtklchpdpooikdaaGreatDoor
