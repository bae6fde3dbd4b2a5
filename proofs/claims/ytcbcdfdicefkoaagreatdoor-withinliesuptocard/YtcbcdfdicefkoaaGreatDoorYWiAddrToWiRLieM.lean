/-
  within's questions of networks: hasAddress.
  within.meets: what holds answers is handed in.
  The document's within: bit.
  The document's May of a subtree, and its bits: the maths. No program.
  The document's within: cut.
  Of a subtree's own: the document's reading bit by bit and label by label, and the program's. The maths. No program.
-/
import Derived.Test.YtcbcdfdicefkoaaGreatDoorYHoR2ToWiNet
import Derived.Test.YtcbcdfdicefkoaaGreatDoorYWiAll2ToWiBoM
import Derived.Laws.BitsAllLaws
namespace Go.Proofs.YtcbcdfdicefkoaaGreatDoor
open Go.RowKit Go.Shelf Go.IntWalk

/-- Is a byte, masked, the address's? -/
def mskB (A M s : List UInt8) (i : Nat) : Bool := bits .and .u8 ((s.getD i 0).toNat : Int) ((M.getD i 0).toNat : Int) == ((A.getD i 0).toNat : Int)
def adG (A M s : List UInt8) : Nat → Nat → Bool
  | _, 0 => true
  | i, n + 1 => mskB A M s i && adG A M s (i + 1) n
/-- Does a network address lie in a network? -/
def hasAddrL (b s : List UInt8) : Bool := decide (s.length = (b.take (b.length / 2)).length) && adG (b.take (b.length / 2)) (b.drop (b.length / 2)) s 0 (b.drop (b.length / 2)).length

set_option maxRecDepth 100000 in
set_option maxHeartbeats 4000000 in
theorem hasAddress_any (b s : List UInt8) (hb : b.length ≤ 1048576) (heq : (b.drop (b.length / 2)).length = (b.take (b.length / 2)).length) (w : World) :
    Calls Tryz.prog 104 #[.string (tx b), .string (tx s)] w fun e w' => e = .returned (.bool (hasAddrL b s)) ∧ Below w.heap.size w w' := by
  have hH := hide (fun W => halves_any b hb W)
  have hR : Hid (hasAddrL b s = (decide (s.length = (b.take (b.length / 2)).length) && adG (b.take (b.length / 2)) (b.drop (b.length / 2)) s 0 (b.drop (b.length / 2)).length)) := rfl
  have hlm : (b.drop (b.length / 2)).length ≤ 1048576 := by rw [List.length_drop]; omega
  generalize hasAddrL b s = R at hR ⊢
  generalize b.take (b.length / 2) = A at *
  generalize b.drop (b.length / 2) = M at *
  have zA := tx_size A
  have zM := tx_size M
  have zS := tx_size s
  by_cases hl : s.length = A.length
  · have hR2 : Hid (R = adG A M s 0 M.length) := by unfold Hid; rw [hR.out, decide_eq_true hl]; rfl
    have HEQ := hide heq
    have HL := hide hl
    have hlI : ((tx s).size : Int) = ((tx A).size : Int) := by omega
    clear hR heq hl
    go_enter Tryz.func104, Tryz.ntmps104
    go_wp2_with fail
    refine (hH.out _).mono ?_
    rintro e w1 ⟨rfl, B1⟩
    have HB := hide B1
    clear B1 hH
    go_wp2
    clear hlI
    go_loopw [20] (fun v wr => ∃ k : Nat, v = .int .i64 k ∧ k ≤ M.length ∧ Hid (R = adG A M s k (M.length - k)) ∧ Hid (Below w.heap.size w wr)) (fun v _ => M.length - (intOf v).toNat)
    case atStart => exact ⟨0, rfl, Nat.zero_le _, hR2.out, HB.out⟩
    case round =>
      obtain ⟨k, rfl, hk, hE, hQ⟩ := hrel
      by_cases hlt : k < M.length
      · have ltI : (k : Int) < (M.length : Int) := by omega
        have hst : adG A M s k (M.length - k) = (mskB A M s k && adG A M s (k + 1) (M.length - (k + 1))) := by
          rw [show M.length - k = (M.length - (k + 1)) + 1 by omega, adG]
        have kS : k < (tx s).size := by have := HEQ.out; have := HL.out; omega
        have kM : k < (tx M).size := by omega
        have kA : k < (tx A).size := by have := HEQ.out; omega
        have jS : (k : Int) < (s.length : Int) := by omega
        have jA : (k : Int) < (A.length : Int) := by omega
        have lS : k < s.length := by omega
        have lA : k < A.length := by omega
        have hm : mskB A M s k = (bits .and .u8 (((tx s)[k]'kS).toNat : Int) (((tx M)[k]'kM).toNat : Int) == (((tx A)[k]'kA).toNat : Int)) := by rw [get_tx, get_tx, get_tx]; rfl
        rw [hst] at hE
        cases hq : mskB A M s k with
        | true =>
          have hE2 : Hid (R = adG A M s (k + 1) (M.length - (k + 1))) := by unfold Hid; rw [hE.out, hq]; rfl
          rw [hq] at hm
          have hm2 := hm.symm
          clear hE hst hm hq
          go_wp2_with fail
          go_region
          all_goals
            go_wp2
            go_roundw
            case rel => exact ⟨k + 1, by simp, by omega, hE2, hQ.out.drew⟩
            case measure => simp [intOf]; omega
        | false =>
          have hF : Hid (R = false) := by unfold Hid; rw [hE.out, hq]; rfl
          rw [hq] at hm
          have hm2 := hm.symm
          clear hE hst hm hq
          go_wp2_with fail
          go_region
          all_goals
            go_wp2
            go_ret
            exact ⟨by rw [hF.out]; rfl, hQ.out.drew⟩
      · have ltI : ¬ (k : Int) < (M.length : Int) := by omega
        have hF : Hid (R = true) := by unfold Hid; rw [hE.out, show M.length - k = 0 by omega, adG]
        go_wp2
        go_ret
        exact ⟨by rw [hF.out]; rfl, hQ.out⟩
  · have hF : Hid (R = false) := by unfold Hid; rw [hR.out, decide_eq_false hl]; rfl
    have hlI : ¬ ((tx s).size : Int) = ((tx A).size : Int) := by omega
    go_enter Tryz.func104, Tryz.ntmps104
    go_wp2_with fail
    refine (hH.out _).mono ?_
    rintro e w1 ⟨rfl, B1⟩
    go_wp2
    go_ret
    exact ⟨by rw [hF.out]; rfl, B1⟩

end Go.Proofs.YtcbcdfdicefkoaaGreatDoor

namespace Go.Proofs.YtcbcdfdicefkoaaGreatDoor
open Go.RowKit Go.Shelf Go.IntWalk

set_option maxRecDepth 100000 in
set_option maxHeartbeats 2000000 in
theorem meets_kp (w0 : World) (kind : Int) (b : List UInt8) (gk : Int) (s : List UInt8) (H X : Bool) (m : Int) (w : World) (hm : Kp w0 m w)
    (h1 : ∀ W, Kp w0 m W → Calls Tryz.prog 36 #[.agg #[.int .i64 kind, .string (tx b)], .agg #[.int .i64 gk, .string (tx s)]] W fun e W' => e = .returned (.bool H) ∧ Below W.heap.size W W' ∧ Kp w0 m W')
    (h2 : kind = 2 → gk = 2 → ∀ W, Kp w0 m W → Calls Tryz.prog 23 #[.string (tx s), .string (tx b)] W fun e W' => e = .returned (.bool X) ∧ Kp w0 m W') :
    Calls Tryz.prog 40 #[.agg #[.int .i64 kind, .string (tx b)], .agg #[.int .i64 gk, .string (tx s)]] w fun e w' => e = .returned (.bool (H || (decide (kind = 2) && (decide (gk = 2) && X)))) ∧ Kp w0 m w' := by
  obtain ⟨R, hR⟩ : ∃ R, (H || (decide (kind = 2) && (decide (gk = 2) && X))) = R := ⟨_, rfl⟩
  rw [hR]
  have D1 := hide h1
  cases H with
  | true =>
    have hF : Hid (R = true) := by rw [← hR]; rfl
    clear h1 h2 hR
    have BX := (nbelowW w (boxS (kind) b)).trans ((nbelowW (w.alloc (boxS (kind) b)) (boxG (gk) s)).mono (by simp))
    have T0 := two_new w (kind) (gk) b s
    have KX := hide (hm.next BX)
    unfold boxS boxG at T0 KX
    clear BX
    go_enter Tryz.func40, Tryz.ntmps40
    have s0 := T0.s0
    have s1 := T0.s1
    have s2 := T0.g0
    have s3 := T0.g1
    go_wp2_with fail
    refine (D1.out _ KX.out).mono ?_
    rintro e w1 ⟨rfl, B1, K1⟩
    have T1 := T0.below B1
    clear T0 s0 s1 s2 s3 KX B1
    have r0 := T1.s0
    have r1 := T1.s1
    have r2 := T1.g0
    have r3 := T1.g1
    go_wp2
    go_ret
    exact ⟨by rw [hF.out]; rfl, K1⟩
  | false =>
    by_cases k2 : kind = 2
    · by_cases g2 : gk = 2
      · have hF : Hid (R = X) := by rw [← hR, decide_eq_true k2, decide_eq_true g2]; rfl
        have D2 := hide (h2 k2 g2)
        clear h1 h2 hR
        subst k2
        subst g2
        have BX := (nbelowW w (boxS (2) b)).trans ((nbelowW (w.alloc (boxS (2) b)) (boxG (2) s)).mono (by simp))
        have T0 := two_new w (2) (2) b s
        have KX := hide (hm.next BX)
        unfold boxS boxG at T0 KX
        clear BX
        go_enter Tryz.func40, Tryz.ntmps40
        have s0 := T0.s0
        have s1 := T0.s1
        have s2 := T0.g0
        have s3 := T0.g1
        go_wp2_with fail
        refine (D1.out _ KX.out).mono ?_
        rintro e w1 ⟨rfl, B1, K1⟩
        have T1 := T0.below B1
        clear T0 s0 s1 s2 s3 KX B1
        have r0 := T1.s0
        have r1 := T1.s1
        have r2 := T1.g0
        have r3 := T1.g1
        go_wp2_with fail
        refine (D2.out _ K1).mono ?_
        rintro e w2 ⟨rfl, K2⟩
        go_wp2
        go_ret
        exact ⟨by rw [hF.out]; simp, K2⟩
      · have hF : Hid (R = false) := by unfold Hid; rw [← hR, decide_eq_false g2]; simp
        clear h1 h2 hR
        subst k2
        have BX := (nbelowW w (boxS (2) b)).trans ((nbelowW (w.alloc (boxS (2) b)) (boxG (gk) s)).mono (by simp))
        have T0 := two_new w (2) (gk) b s
        have KX := hide (hm.next BX)
        unfold boxS boxG at T0 KX
        clear BX
        go_enter Tryz.func40, Tryz.ntmps40
        have s0 := T0.s0
        have s1 := T0.s1
        have s2 := T0.g0
        have s3 := T0.g1
        go_wp2_with fail
        refine (D1.out _ KX.out).mono ?_
        rintro e w1 ⟨rfl, B1, K1⟩
        have T1 := T0.below B1
        clear T0 s0 s1 s2 s3 KX B1
        have r0 := T1.s0
        have r1 := T1.s1
        have r2 := T1.g0
        have r3 := T1.g1
        go_wp2
        go_ret
        exact ⟨by rw [hF.out]; rfl, K1⟩
    · have hF : Hid (R = false) := by rw [← hR, decide_eq_false k2]; rfl
      clear h1 h2 hR
      have BX := (nbelowW w (boxS (kind) b)).trans ((nbelowW (w.alloc (boxS (kind) b)) (boxG (gk) s)).mono (by simp))
      have T0 := two_new w (kind) (gk) b s
      have KX := hide (hm.next BX)
      unfold boxS boxG at T0 KX
      clear BX
      go_enter Tryz.func40, Tryz.ntmps40
      have s0 := T0.s0
      have s1 := T0.s1
      have s2 := T0.g0
      have s3 := T0.g1
      go_wp2_with fail
      refine (D1.out _ KX.out).mono ?_
      rintro e w1 ⟨rfl, B1, K1⟩
      have T1 := T0.below B1
      clear T0 s0 s1 s2 s3 KX B1
      have r0 := T1.s0
      have r1 := T1.s1
      have r2 := T1.g0
      have r3 := T1.g1
      go_wp2
      go_ret
      exact ⟨by rw [hF.out]; rfl, K1⟩

end Go.Proofs.YtcbcdfdicefkoaaGreatDoor

namespace Go.Proofs.YtcbcdfdicefkoaaGreatDoor
open Go.RowKit Go.Shelf Go.IntWalk

/-- A bit as a number. -/
def bitN (l : List UInt8) (i : Nat) : Int := if bitB l i = true then 1 else 0
theorem rbit_fact (l : List UInt8) (i : Nat) (h : i / 8 < (tx l).size) : (wrap64 ((((tx l)[i / 8]'h).toNat : Int) / 2 ^ (7 - i % 8))).tmod 2 = bitN l i := by
  rw [get_tx]
  unfold bitN bitB
  generalize hx : (l.getD (i / 8) 0).toNat = x
  have hx2 : x < 256 := by rw [← hx]; exact (l.getD (i / 8) 0).toNat_lt
  have e : ((x : Int) / 2 ^ (7 - i % 8)) = ((x / 2 ^ (7 - i % 8) : Nat) : Int) := by push_cast; rfl
  have hle : x / 2 ^ (7 - i % 8) ≤ x := Nat.div_le_self _ _
  rw [e]
  generalize x / 2 ^ (7 - i % 8) = y at hle ⊢
  rw [wrap64_in _ ⟨by omega, by omega⟩, Int.tmod_eq_emod_of_nonneg (by omega)]
  split
  · rename_i h9
    have := of_decide_eq_true h9
    omega
  · rename_i h9
    have h8 : ¬ y % 2 = 1 := fun h => h9 (decide_eq_true h)
    omega
set_option maxRecDepth 100000 in
theorem rbit_any (l : List UInt8) (i : Nat) (hi : i < 8 * l.length) (hl : l.length ≤ 1048576) (w : World) :
    Calls Tryz.prog 35 #[.string (tx l), .int .i64 i] w fun e w' => e = .returned (.int .i64 (bitN l i)) ∧ w' = w := by
  have hz := tx_size l
  have h1 : i / 8 < (tx l).size := by rw [hz]; omega
  have h2 : ((i / 8 : Nat) : Int) < ((tx l).size : Int) := by omega
  have h3 : (i : Int) ≤ 8388608 := by omega
  go_enter Tryz.func35, Tryz.ntmps35
  go_wp2
  go_ret
  exact ⟨by rw [← rbit_fact l i h1]; rfl, rfl⟩

end Go.Proofs.YtcbcdfdicefkoaaGreatDoor

namespace Go.Proofs.YtcbcdfdicefkoaaGreatDoor

theorem locS_dot (r : List UInt8) : locS true (46 :: r) = false := by
  rw [locS, if_pos rfl]; rfl
/-- What begins with a dot is no mail address. -/
theorem mail_dot (r : List UInt8) : mailL (46 :: r) = false := by
  unfold mailL
  rw [cutD, if_neg (by decide), locL_S]
  simp only []
  rw [locS_dot]
  simp
theorem trimD_dot (r : List UInt8) : trimD (46 :: r) = r := by
  unfold trimD Lib.trimPrefix Lib.hasPrefix
  simp [List.isPrefixOf]
theorem trimD_not {b : List UInt8} (h : ∀ r, b ≠ 46 :: r) : trimD b = b := by
  unfold trimD Lib.trimPrefix
  split
  · rename_i hp
    obtain ⟨t, ht⟩ := List.isPrefixOf_iff_prefix.1 hp
    exact absurd ht.symm (h t)
  · rfl
theorem isMail_dot (r : List UInt8) : isMailL (46 :: r) = dnsL r := by
  unfold isMailL
  rw [mail_dot, trimD_dot]; rfl
theorem isMail_not {b : List UInt8} (h : ∀ r, b ≠ 46 :: r) : isMailL b = (mailL b || dnsL b) := by
  unfold isMailL
  rw [trimD_not h]

/-- Is a network's Base right at this bit? As the document says it. -/
def badB (A M : List UInt8) (i : Nat) : Bool := (bitB M i && (decide (0 < i) && !bitB M (i - 1))) || (!bitB M i && bitB A i)
theorem bad_ok (A M : List UInt8) (i : Nat) : okB A M i = !badB A M i := by
  unfold okB badB endB
  cases bitB M i <;> cases bitB A i <;> cases decide (0 < i) <;> cases bitB M (i - 1) <;> rfl
/-- The bits of a text, and of what is behind its half. -/
theorem bit_take (b : List UInt8) (h i : Nat) (hi : i < 8 * h) : bitB (b.take h) i = bitB b i := by
  unfold bitB
  have hk : i / 8 < h := by omega
  have e : (b.take h).getD (i / 8) 0 = b.getD (i / 8) 0 := by
    simp [List.getD, hk]
  rw [e]

/-- The Some of a wild name: its Base is one label and what stands behind the star. -/
def oneB (b r : List UInt8) : Bool := decide ((labs b).length = (labs r).length + 1) && belB b r
theorem LS_len (a : List UInt8) : (LS a).length = (labs a).length := by
  unfold LS
  have e : labs (smallL a) = (labs a).map smallL := small_labs a []
  rw [e, List.length_map]
theorem one_match {b r : List UInt8} (hw : wildL (42 :: 46 :: r) = true) (hb : dnsL b = true) : oneB b r = matchL (42 :: 46 :: r) b := by
  have hr : dnsL r = true := by
    obtain ⟨r2, e, h, _⟩ := wild_split hw
    have := List.cons.inj (List.cons.inj e).2
    obtain ⟨_, rfl⟩ := this
    exact h
  apply Bool.eq_iff_iff.2
  rw [match_wild hw]
  unfold oneB
  rw [Bool.and_eq_true, decide_eq_true_eq, bel_LS]
  constructor
  · rintro ⟨h1, _, _, h2⟩
    refine ⟨hb, ?_⟩
    obtain ⟨p, hp⟩ := h2
    have hl : p.length = 1 := by
      have h3 := congrArg List.length hp
      rw [List.length_append, LS_len, LS_len] at h3
      omega
    obtain ⟨l, rfl⟩ := List.length_eq_one_iff.1 hl
    exact ⟨l, hp.symm⟩
  · rintro ⟨_, l, h2⟩
    have h3 := congrArg List.length h2
    rw [List.length_cons, LS_len, LS_len] at h3
    exact ⟨h3, hb, hr, ⟨[l], h2.symm⟩⟩

end Go.Proofs.YtcbcdfdicefkoaaGreatDoor

namespace Go.Proofs.YtcbcdfdicefkoaaGreatDoor
open Go.RowKit Go.Shelf Go.IntWalk

/-- What stands ahead of an @, and behind it; the text itself where there is none. -/
def cutR (l : List UInt8) : List UInt8 × List UInt8 × Bool := if (cutD 64 l).2.2 = true then cutD 64 l else ([], l, false)
theorem cutD_yes (d : UInt8) : ∀ (l : List UInt8) (k : Nat) (hk : k < l.length), (∀ i (h : i < l.length), i < k → l[i]'h ≠ d) → l[k]'hk = d → cutD d l = (l.take k, l.drop (k + 1), true)
  | c :: r, 0, _, _, h => by
    have h' : c = d := h
    rw [cutD, if_pos h']; rfl
  | c :: r, k + 1, hk, hn, h => by
    have h0 : c ≠ d := hn 0 (by simp) (by omega)
    have ih := cutD_yes d r k (by simpa using hk) (fun i hi hik => hn (i + 1) (by simpa using hi) (by omega)) (by simpa using h)
    rw [cutD, if_neg h0, ih]
    rfl
theorem cutD_never (d : UInt8) : ∀ (l : List UInt8), (∀ i (h : i < l.length), l[i]'h ≠ d) → (cutD d l).2.2 = false
  | [], _ => rfl
  | c :: r, hn => by
    have h0 : c ≠ d := hn 0 (by simp)
    rw [cutD, if_neg h0]
    exact cutD_never d r (fun i hi => hn (i + 1) (by simpa using hi))

set_option maxRecDepth 100000 in
set_option maxHeartbeats 2000000 in
theorem rcut_any (l : List UInt8) (hl : l.length ≤ 1048576) (w : World) :
    Calls Tryz.prog 71 #[.string (tx l)] w fun e w' => e = .returned (.tuple #[.string (tx (cutR l).1), .string (tx (cutR l).2.1), .bool (cutR l).2.2]) ∧ Below w.heap.size w w' := by
  have hz := tx_size l
  obtain ⟨R, hR⟩ : ∃ R, cutR l = R := ⟨_, rfl⟩
  rw [hR]
  have HR := hide hR
  clear hR
  go_enter Tryz.func71, Tryz.ntmps71
  go_wp2
  go_loopw [5] (fun v wr => ∃ k : Nat, v = .int .i64 k ∧ k ≤ l.length ∧ Hid (∀ i (h : i < l.length), i < k → l[i]'h ≠ 64) ∧ Hid (Below w.heap.size w wr)) (fun v _ => l.length - (intOf v).toNat)
  case atStart => exact ⟨0, rfl, Nat.zero_le _, fun i _ h => absurd h (by omega), Below.refl _ _⟩
  case round =>
    obtain ⟨k, rfl, hk, hN, hQ⟩ := hrel
    by_cases hlt : k < l.length
    · have ltI : (k : Int) < (l.length : Int) := by omega
      have kS : k < (tx l).size := by omega
      have hg : (tx l)[k]'kS = l[k]'hlt := rfl
      by_cases hd : l[k]'hlt = 64
      · have hq : (((tx l)[k]'kS).toNat : Int) = 64 := by rw [hg, hd]; rfl
        have hF : Hid (R = (l.take k, l.drop (k + 1), true)) := by
          unfold Hid
          rw [← HR.out]
          unfold cutR
          rw [cutD_yes 64 l k hlt hN.out hd, if_pos rfl]
        have s1 := extract_lo l k
        have s2 := extract_hi l (k + 1)
        have i1 : (k : Int) + 1 ≤ (l.length : Int) := by omega
        clear hg
        go_wp2_with fail
        go_region
        all_goals
          go_wp2
          refine bodyPost_ret (v := .tuple #[.string (tx (l.take k)), .string (tx (l.drop (k + 1))), .bool true]) (by simp [results, Tryz.results71, go_sem]) rfl ⟨by rw [hF.out], hQ.out.drew⟩
      · have hq : ¬ (((tx l)[k]'kS).toNat : Int) = 64 := by
          rw [hg]
          intro h
          exact hd (UInt8.toNat_inj.1 (by have : (64 : UInt8).toNat = 64 := rfl; omega))
        have hN2 : Hid (∀ i (h : i < l.length), i < k + 1 → l[i]'h ≠ 64) := fun i h hi => by
          by_cases hik : i < k
          · exact hN.out i h hik
          · obtain rfl : i = k := by omega
            exact hd
        clear hg
        go_wp2
        go_roundw
        case rel => exact ⟨k + 1, by simp, by omega, hN2, hQ⟩
        case measure => simp [intOf]; omega
    · have ltI : ¬ (k : Int) < (l.length : Int) := by omega
      have hF : Hid (R = ([], l, false)) := by
        unfold Hid
        rw [← HR.out]
        unfold cutR
        rw [cutD_never 64 l (fun i h => hN.out i h (by omega))]
        rfl
      go_wp2
      refine bodyPost_ret (v := .tuple #[.string ⟨#[]⟩, .string (tx l), .bool false]) (by simp [results, Tryz.results71, go_sem]) rfl ⟨by rw [hF.out]; rfl, hQ.out⟩

end Go.Proofs.YtcbcdfdicefkoaaGreatDoor

namespace Go.Proofs.YtcbcdfdicefkoaaGreatDoor

theorem byte_mask (x m a : Nat) (hx : x < 256) (ha : a < 256) (hA : ∀ j, j < 8 → a.testBit j = true → m.testBit j = true) : (x &&& m = a) ↔ ∀ j, j < 8 → m.testBit j = true → x.testBit j = a.testBit j := by
  constructor
  · rintro rfl j _ hj
    rw [Nat.testBit_and, hj, Bool.and_true]
  · intro h
    refine Nat.eq_of_testBit_eq fun j => ?_
    rw [Nat.testBit_and]
    by_cases hj : j < 8
    · cases hmj : m.testBit j with
      | true => rw [h j hj hmj, Bool.and_true]
      | false =>
        rw [Bool.and_false]
        cases haj : a.testBit j with
        | false => rfl
        | true => rw [hA j hj haj] at hmj; cases hmj
    · have h8 : 2 ^ 8 ≤ 2 ^ j := Nat.pow_le_pow_right (by decide) (by omega)
      have e1 : x.testBit j = false := Nat.testBit_lt_two_pow (by omega)
      have e2 : a.testBit j = false := Nat.testBit_lt_two_pow (by omega)
      rw [e1, e2, Bool.false_and]
theorem bitB_test (l : List UInt8) (j r : Nat) (hr : r < 8) : bitB l (8 * j + r) = (l.getD j 0).toNat.testBit (7 - r) := by
  unfold bitB
  rw [show (8 * j + r) / 8 = j by omega, show (8 * j + r) % 8 = r by omega, Nat.testBit_eq_decide_div_mod_eq]

/-- Is a bit of an address what the network asks? -/
def lieB (A M s : List UInt8) (i : Nat) : Bool := !(bitB M i && (bitB s i != bitB A i))
def lieG (A M s : List UInt8) : Nat → Nat → Bool
  | _, 0 => true
  | i, n + 1 => lieB A M s i && lieG A M s (i + 1) n
theorem lie_all (A M s : List UInt8) : ∀ n i, lieG A M s i n = true ↔ ∀ j, i ≤ j → j < i + n → lieB A M s j = true
  | 0, i => ⟨fun _ j h1 h2 => by omega, fun _ => rfl⟩
  | n + 1, i => by
    rw [lieG, Bool.and_eq_true, lie_all A M s n (i + 1)]
    constructor
    · rintro ⟨h1, h2⟩ j hj hj2
      by_cases e : j = i
      · rw [e]; exact h1
      · exact h2 j (by omega) (by omega)
    · intro h
      exact ⟨h i (Nat.le_refl _) (by omega), fun j h1 h2 => h j (by omega) (by omega)⟩
theorem ad_all (A M s : List UInt8) : ∀ n i, adG A M s i n = true ↔ ∀ j, i ≤ j → j < i + n → mskB A M s j = true
  | 0, i => ⟨fun _ j h1 h2 => by omega, fun _ => rfl⟩
  | n + 1, i => by
    rw [adG, Bool.and_eq_true, ad_all A M s n (i + 1)]
    constructor
    · rintro ⟨h1, h2⟩ j hj hj2
      by_cases e : j = i
      · rw [e]; exact h1
      · exact h2 j (by omega) (by omega)
    · intro h
      exact ⟨h i (Nat.le_refl _) (by omega), fun j h1 h2 => h j (by omega) (by omega)⟩
theorem net_all (A M : List UInt8) : ∀ n i, netG A M i n = true → ∀ j, i ≤ j → j < i + n → okB A M j = true
  | 0, i, _, j, h1, h2 => by omega
  | n + 1, i, h, j, h1, h2 => by
    rw [netG, Bool.and_eq_true] at h
    by_cases e : j = i
    · rw [e]; exact h.1
    · exact net_all A M n (i + 1) h.2 j (by omega) (by omega)
theorem msk_bits (A M s : List UInt8) (j : Nat) (hA : ∀ r, r < 8 → bitB A (8 * j + r) = true → bitB M (8 * j + r) = true) : mskB A M s j = true ↔ ∀ r, r < 8 → lieB A M s (8 * j + r) = true := by
  have hx := (s.getD j 0).toNat_lt
  have hm := (M.getD j 0).toNat_lt
  have ha := (A.getD j 0).toNat_lt
  have key := byte_mask (s.getD j 0).toNat (M.getD j 0).toNat (A.getD j 0).toNat hx ha (fun t ht h => by
    have h2 := hA (7 - t) (by omega)
    rw [bitB_test A j (7 - t) (by omega), bitB_test M j (7 - t) (by omega), show 7 - (7 - t) = t by omega] at h2
    exact h2 h)
  have e : mskB A M s j = true ↔ ((s.getD j 0).toNat &&& (M.getD j 0).toNat) = (A.getD j 0).toNat := by
    unfold mskB
    rw [u8_and_nat _ _ hx hm, beq_iff_eq]
    constructor
    · intro h; omega
    · intro h; rw [h]
  rw [e, key]
  constructor
  · intro h r hr
    have h2 := h (7 - r) (by omega)
    unfold lieB
    rw [bitB_test M j r hr, bitB_test s j r hr, bitB_test A j r hr]
    cases hmr : (M.getD j 0).toNat.testBit (7 - r) with
    | false => rfl
    | true => rw [h2 hmr]; simp
  · intro h t ht hmt
    have h2 := h (7 - t) (by omega)
    unfold lieB at h2
    rw [bitB_test M j (7 - t) (by omega), bitB_test s j (7 - t) (by omega), bitB_test A j (7 - t) (by omega), show 7 - (7 - t) = t by omega, hmt] at h2
    simpa using h2
/-- Bit by bit, and byte by byte. -/
theorem lie_ad {A M s : List UInt8} {n : Nat} (h : netG A M 0 (8 * n) = true) : lieG A M s 0 (8 * n) = adG A M s 0 n := by
  have hok := net_all A M (8 * n) 0 h
  have hA : ∀ j, j < n → ∀ r, r < 8 → bitB A (8 * j + r) = true → bitB M (8 * j + r) = true := fun j hj r hr h1 => by
    have h2 := hok (8 * j + r) (Nat.zero_le _) (by omega)
    unfold okB at h2
    rw [h1] at h2
    cases hq : bitB M (8 * j + r) with
    | true => rfl
    | false => rw [hq] at h2; simp at h2
  apply Bool.eq_iff_iff.2
  rw [lie_all, ad_all]
  constructor
  · intro h1 j _ hj
    rw [msk_bits A M s j (hA j (by omega))]
    exact fun r hr => h1 (8 * j + r) (Nat.zero_le _) (by omega)
  · intro h1 i _ hi
    have h2 := (msk_bits A M s (i / 8) (hA (i / 8) (by omega))).1 (h1 (i / 8) (Nat.zero_le _) (by omega)) (i % 8) (by omega)
    rw [show 8 * (i / 8) + i % 8 = i by omega] at h2
    exact h2

/-- Of what lies below a name, that name alone lies above it. -/
theorem bel_strict {a d : List UInt8} (h : belB a d = true) : belB d a = matchL d a := by
  rw [bel_LS] at h
  obtain ⟨ha, hd, hs⟩ := h
  apply Bool.eq_iff_iff.2
  rw [match_dns hd, bel_LS]
  constructor
  · rintro ⟨_, _, h2⟩
    refine ⟨ha, ?_⟩
    exact hs.eq_of_length (Nat.le_antisymm hs.length_le h2.length_le)
  · rintro ⟨_, h2⟩
    exact ⟨hd, ha, by rw [h2]; exact List.suffix_refl _⟩
theorem cutR_yes {s : List UInt8} (h : (cutD 64 s).2.2 = true) : cutR s = cutD 64 s := by unfold cutR; rw [if_pos h]
theorem cutR_no {s : List UInt8} (h : (cutD 64 s).2.2 = false) : cutR s = ([], s, false) := by unfold cutR; rw [if_neg (by rw [h]; decide)]

end Go.Proofs.YtcbcdfdicefkoaaGreatDoor
