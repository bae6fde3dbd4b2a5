/-
  Distinguished names as subtrees and as general names: isName of within and of host, hasName.
  within.May, All, Some, host.May: their answers, whole.
-/
import Derived.Test.YtcbcdfdicefkoaaGreatDoorYWiAddrToWiRLieM
import Derived.Test.YtcbcdfdicefkoaaGreatDoorYWiAll2ToWiBoM
import Derived.Test.YtcbcdfdicefkoaaGreatDoorYNmDecW
namespace Go.Proofs.YtcbcdfdicefkoaaGreatDoor
open Go.RowKit Go.Shelf Go.IntWalk

/-- Are these a name's bytes? -/
def wNM (b : List UInt8) : Bool := decide (ansE (nums b) = 0)
/-- Does the name of these bytes begin with the other one? -/
def hNM (b s : List UInt8) : Bool := bg ((ansN (nums s)).map key) ((ansN (nums b)).map key)
theorem ansN_small {xs : List Int} : ∀ x ∈ ansN xs, x.2.size ≤ 1048576 := by
  intro x hx
  unfold ansN at hx
  split at hx
  · cases hx
  · split at hx
    · rename_i h
      unfold okN at h
      rw [Bool.and_eq_true] at h
      have h2 := (name_all h.1).2 x hx
      have := attr_short h2
      omega
    · cases hx

theorem conv_base (s : ByteArray) (hs : s.size ≤ 1048576) (w : World) :
    ∃ cap w', (convert 55 60 (.string s)).run Tryz.prog w = .ok (.slice (some ⟨w.heap.size, 0, none⟩) s.size cap) w' ∧ Src w' (some ⟨w.heap.size, 0, none⟩) s.size cap (nums s.data.toList) ∧ Below w.heap.size w w' := by
  have hr := Lib.run_convert_string_bytes (P := Tryz.prog) w 55 60 5 s Tryz.underlying55 Tryz.underlying60 Tryz.underlying5
  obtain ⟨cap, w', h1, h2, h3⟩ := conv_any s hs w
  have hr2 := Lib.run_convert_string_bytes (P := Tryz.prog) w 9 60 5 s Tryz.underlying9 Tryz.underlying60 Tryz.underlying5
  rw [hr2] at h1
  exact ⟨cap, w', hr.trans h1, h2, h3⟩

set_option maxRecDepth 100000 in
set_option maxHeartbeats 1000000 in
theorem isName_kp (w0 : World) (b : List UInt8) (hb : b.length ≤ 1048576) (m : Int) (w : World) (hm : Kp w0 m w) :
    Calls Tryz.prog 101 #[.string (tx b)] w fun e w' => e = .returned (.bool (wNM b)) ∧ Kp w0 m w' := by
  obtain ⟨cap, w1, hcv, s1, B1⟩ := conv_base (tx b) (by rw [tx_size]; exact hb) w
  have d1 := hide (callsIn_wide.1 (decodeN_in _ _ _ _ w1 s1 (by rw [tx_size]; exact hb)))
  rw [tx_list] at d1
  have HW : Hid (wNM b = decide (ansE (nums b) = 0)) := rfl
  have K1 := hide (hm.next B1)
  clear hm B1 s1
  generalize ansE (nums b) = E at *
  generalize ansN (nums b) = A at *
  go_enter Tryz.func101, Tryz.ntmps101
  go_wp2_with fail
  refine d1.out.mono ?_
  rintro e w2 ⟨a2, m2, c2, rfl, _, B2⟩
  have K2 := hide (K1.out.next B2)
  have hq : (E == 0) = decide (E = 0) := by by_cases h : E = 0 <;> simp [h]
  clear d1 B2 K1
  go_wp2
  go_ret
  exact ⟨by rw [HW.out, ← hq]; rfl, K2.out⟩
set_option maxRecDepth 100000 in
set_option maxHeartbeats 1000000 in
theorem isNameH_kp (w0 : World) (b : List UInt8) (hb : b.length ≤ 1048576) (m : Int) (w : World) (hm : Kp w0 m w) :
    Calls Tryz.prog 79 #[.string (tx b)] w fun e w' => e = .returned (.bool (wNM b)) ∧ Kp w0 m w' := by
  obtain ⟨cap, w1, hcv, s1, B1⟩ := conv_any (tx b) (by rw [tx_size]; exact hb) w
  have d1 := hide (callsIn_wide.1 (decodeN_in _ _ _ _ w1 s1 (by rw [tx_size]; exact hb)))
  rw [tx_list] at d1
  have HW : Hid (wNM b = decide (ansE (nums b) = 0)) := rfl
  have K1 := hide (hm.next B1)
  clear hm B1 s1
  generalize ansE (nums b) = E at *
  generalize ansN (nums b) = A at *
  go_enter Tryz.func79, Tryz.ntmps79
  go_wp2_with fail
  refine d1.out.mono ?_
  rintro e w2 ⟨a2, m2, c2, rfl, _, B2⟩
  have K2 := hide (K1.out.next B2)
  have hq : (E == 0) = decide (E = 0) := by by_cases h : E = 0 <;> simp [h]
  clear d1 B2 K1
  go_wp2
  go_ret
  exact ⟨by rw [HW.out, ← hq]; rfl, K2.out⟩

set_option maxRecDepth 100000 in
set_option maxHeartbeats 1000000 in
theorem hasName_kp (w0 : World) (b s : List UInt8) (hb : b.length ≤ 1048576) (hs : s.length ≤ 1048576) (m : Int) (w : World) (hm : Kp w0 m w) :
    Calls Tryz.prog 102 #[.string (tx b), .string (tx s)] w fun e w' => e = .returned (.bool (hNM b s)) ∧ Kp w0 m w' := by
  obtain ⟨cap, w1, hcv, s1, B1⟩ := conv_any (tx s) (by rw [tx_size]; exact hs) w
  have d1 := hide (callsIn_wide.1 (decodeN_in _ _ _ _ w1 s1 (by rw [tx_size]; exact hs)))
  have HC := hide (fun W => conv_base (tx b) (by rw [tx_size]; exact hb) W)
  have d2 := hide (fun (W : World) (g c : Nat) (h : Src W (some ⟨g, 0, none⟩) (tx b).size c (nums (tx b).data.toList)) => callsIn_wide.1 (decodeN_in (some ⟨g, 0, none⟩) (tx b).size c _ W h (by rw [tx_size]; exact hb)))
  rw [tx_list] at d1 d2 HC
  have HW : Hid (hNM b s = bg ((ansN (nums s)).map key) ((ansN (nums b)).map key)) := rfl
  have Z1 := hide (ansN_small (xs := nums s))
  have Z2 := hide (ansN_small (xs := nums b))
  have K1 := hide (hm.next B1)
  clear hm B1 s1
  generalize ansE (nums b) = E1 at *
  generalize ansN (nums b) = A1 at *
  generalize ansE (nums s) = E2 at *
  generalize ansN (nums s) = A2 at *
  go_enter Tryz.func102, Tryz.ntmps102
  go_wp2_with fail
  refine d1.out.mono ?_
  rintro e w2 ⟨a2, m2, c2, rfl, o2, B2⟩
  have K2 := hide (K1.out.next B2)
  obtain ⟨cap3, w3, hcv3, s3, B3⟩ := HC.out w2
  have d3 := hide (d2.out w3 w2.heap.size cap3 s3)
  have T2 := hide ((o2.ats Z1.out).below B3)
  have K3 := hide (K2.out.next B3)
  clear d1 o2 B2 B3 K1 K2 HC d2 s3
  go_wp2_with fail
  refine d3.out.mono ?_
  rintro e w4 ⟨a4, m4, c4, rfl, o4, B4⟩
  have d4 := hide (begins_any a2 m2 c2 A2 a4 m4 c4 A1 w4 (T2.out.below B4) (o4.ats Z2.out))
  have K4 := hide (K3.out.next B4)
  clear d3 o4 B4 K3 T2
  go_wp2_with fail
  refine d4.out.mono ?_
  rintro e w5 ⟨rfl, B5⟩
  have K5 := hide (K4.out.next B5)
  clear d4 B5 K4
  go_wp2
  go_ret
  exact ⟨by rw [HW.out]; rfl, K5.out⟩

end Go.Proofs.YtcbcdfdicefkoaaGreatDoor

namespace Go.Proofs.YtcbcdfdicefkoaaGreatDoor
open Go.RowKit Go.Shelf Go.IntWalk

def mF : Nat → List UInt8 → Bool
  | 0, b => isMailL b
  | 1, b => dnsL b
  | 2, b => wNM b
  | _, b => isNetL b
def hF : Nat → List UInt8 → List UInt8 → Bool
  | 0, b, s => hasMailL b s
  | 1, b, s => belB (trimW s) b
  | 2, b, s => hNM b s
  | _, b, s => hasAddrL b s
def mayW (k : Int) (b : List UInt8) : Bool := decide (rAt k < 4) && mF (rAt k) b
def mayG (k : Int) (s : List UInt8) : Bool := hmay k s (wNM s)
def holL (k : Int) (b : List UInt8) (gk : Int) (s : List UInt8) : Bool := decide (k = gk) && hF (rAt k) b s
def meeL (k : Int) (b : List UInt8) (gk : Int) (s : List UInt8) : Bool := holL k b gk s || (decide (k = 2) && (decide (gk = 2) && matchL s b))
def allW (k : Int) (b : List UInt8) (gk : Int) (s : List UInt8) : Bool := mayW k b && (mayG gk s && holL k b gk s)
def somW (k : Int) (b : List UInt8) (gk : Int) (s : List UInt8) : Bool := mayW k b && (mayG gk s && meeL k b gk s)

theorem mayW_kp (w0 : World) (k : Int) (b : List UInt8) (hb : b.length ≤ 1048576) (m : Int) (w : World) (hm : Kp w0 m w) :
    Calls Tryz.prog 11 #[.agg #[.int .i64 k, .string (tx b)]] w fun e w' => e = .returned (.bool (mayW k b)) ∧ Below w.heap.size w w' ∧ Kp w0 m w' := by
  refine (wmay_kp w k b (mF (rAt k) b) m (fun h4 W hW => ?_) w (Kp.refl hm.2)).mono fun _ _ ⟨h1, h2⟩ => ⟨h1, h2.1, hm.own h2⟩
  match rAt k, h4 with
  | 0, _ => exact isMail_kp w b hb m W hW
  | 1, _ => exact isHost_kp w b hb m W hW
  | 2, _ => exact isName_kp w b hb m W hW
  | 3, _ => exact (isNet_any b hb W).mono fun _ _ ⟨h1, h2⟩ => ⟨h1, hW.next h2⟩
theorem mayG_kp (w0 : World) (k : Int) (hk : (Lit.int .i64 k).wf = true) (s : List UInt8) (hs : s.length ≤ 1048576) (m : Int) (w : World) (hm : Kp w0 m w) :
    Calls Tryz.prog 22 #[.agg #[.int .i64 k, .string (tx s)]] w fun e w' => e = .returned (.bool (mayG k s)) ∧ Below w.heap.size w w' ∧ Kp w0 m w' :=
  (hmay_kp w k hk s hs (wNM s) m (fun _ W hW => isNameH_kp w s hs m W hW) w (Kp.refl hm.2)).mono fun _ _ ⟨h1, h2⟩ => ⟨h1, h2.1, hm.own h2⟩
theorem net_eq {b : List UInt8} (h : isNetL b = true) : (b.drop (b.length / 2)).length = (b.take (b.length / 2)).length := by
  unfold isNetL at h
  rw [Bool.and_eq_true, Bool.and_eq_true, decide_eq_true_eq] at h
  exact h.2.1
theorem hol_kp (w0 : World) (k : Int) (b : List UInt8) (hb : b.length ≤ 1048576) (gk : Int) (s : List UInt8) (hs : s.length ≤ 1048576) (m : Int) (w : World) (hm : Kp w0 m w) (hA : mayW k b = true) :
    Calls Tryz.prog 36 #[.agg #[.int .i64 k, .string (tx b)], .agg #[.int .i64 gk, .string (tx s)]] w fun e w' => e = .returned (.bool (holL k b gk s)) ∧ Below w.heap.size w w' ∧ Kp w0 m w' := by
  unfold mayW at hA
  rw [Bool.and_eq_true, decide_eq_true_eq] at hA
  obtain ⟨h4, hM⟩ := hA
  refine (holds_kp w k b gk s (hF (rAt k) b s) m h4 (fun _ W hW => ?_) w (Kp.refl hm.2)).mono fun _ _ ⟨h1, h2⟩ => ⟨h1, h2.1, hm.own h2⟩
  match rAt k, h4, hM with
  | 0, _, _ => exact hasMail_kp w b s hb hs m W hW
  | 1, _, _ => exact hasHost_kp w b s hb hs m W hW
  | 2, _, _ => exact hasName_kp w b s hb hs m W hW
  | 3, _, hM => exact (hasAddress_any b s hb (net_eq hM) W).mono fun _ _ ⟨h1, h2⟩ => ⟨h1, hW.next h2⟩
theorem allW_kp (w0 : World) (k : Int) (b : List UInt8) (hb : b.length ≤ 1048576) (gk : Int) (hk : (Lit.int .i64 gk).wf = true) (s : List UInt8) (hs : s.length ≤ 1048576) (m : Int) (w : World) (hm : Kp w0 m w) :
    Calls Tryz.prog 13 #[.agg #[.int .i64 k, .string (tx b)], .agg #[.int .i64 gk, .string (tx s)]] w fun e w' => e = .returned (.bool (allW k b gk s)) ∧ Below w.heap.size w w' ∧ Kp w0 m w' :=
  (all_kp w k b gk s (mayW k b) (mayG gk s) (holL k b gk s) m w (Kp.refl hm.2) (fun W hW => mayW_kp w k b hb m W hW) (fun _ W hW => mayG_kp w gk hk s hs m W hW)
    (fun hA _ W hW => (hol_kp w k b hb gk s hs m W hW hA).mono fun _ _ ⟨h1, _, h2⟩ => ⟨h1, h2⟩)).mono fun _ _ ⟨h1, h2⟩ => ⟨h1, h2.1, hm.own h2⟩
theorem somW_kp (w0 : World) (k : Int) (b : List UInt8) (hb : b.length ≤ 1048576) (gk : Int) (hk : (Lit.int .i64 gk).wf = true) (s : List UInt8) (hs : s.length ≤ 1048576) (m : Int) (w : World) (hm : Kp w0 m w) :
    Calls Tryz.prog 15 #[.agg #[.int .i64 k, .string (tx b)], .agg #[.int .i64 gk, .string (tx s)]] w fun e w' => e = .returned (.bool (somW k b gk s)) ∧ Below w.heap.size w w' ∧ Kp w0 m w' :=
  (some_kp w k b gk s (mayW k b) (mayG gk s) (meeL k b gk s) m w (Kp.refl hm.2) (fun W hW => mayW_kp w k b hb m W hW) (fun _ W hW => mayG_kp w gk hk s hs m W hW)
    (fun hA _ W hW => meets_kp w k b gk s (holL k b gk s) (matchL s b) m W hW (fun V hV => hol_kp w k b hb gk s hs m V hV hA)
      (fun _ _ V hV => (match_any s b hs hb m V hV.2).mono fun _ _ ⟨h1, h2⟩ => ⟨h1, hV.next h2⟩))).mono fun _ _ ⟨h1, h2⟩ => ⟨h1, h2.1, hm.own h2⟩

/-- What the statement says, of the answers alone. -/
theorem both_some {k : Int} {b : List UInt8} {gk : Int} {s : List UInt8} :
    (allW k b gk s = true → somW k b gk s = true) ∧ (somW k b gk s = true → mayW k b = true ∧ mayG gk s = true ∧ k = gk) ∧ (allW k b gk s = false → somW k b gk s = true → wildL s = true) := by
  refine ⟨fun h => ?_, fun h => ?_, fun h h2 => ?_⟩
  · unfold allW at h
    unfold somW meeL
    simp only [Bool.and_eq_true] at h
    rw [h.1, h.2.1, h.2.2]
    rfl
  · unfold somW meeL at h
    simp only [Bool.and_eq_true, Bool.or_eq_true, decide_eq_true_eq] at h
    refine ⟨h.1, h.2.1, ?_⟩
    rcases h.2.2 with h3 | h3
    · unfold holL at h3
      simp only [Bool.and_eq_true, decide_eq_true_eq] at h3
      exact h3.1
    · rw [h3.1, h3.2.1]
  · unfold somW meeL at h2
    simp only [Bool.and_eq_true, Bool.or_eq_true, decide_eq_true_eq] at h2
    have hH : holL k b gk s = false := by
      cases hq : holL k b gk s with
      | false => rfl
      | true => unfold allW at h; rw [h2.1, h2.2.1, hq] at h; cases h
    rcases h2.2.2 with h3 | ⟨rfl, rfl, h3⟩
    · rw [hH] at h3; cases h3
    · rcases (match_kind h3).1 with hd | hw
      · unfold holL at hH
        have h5 : hF (rAt 2) b s = belB (trimW s) b := rfl
        rw [h5, dns_some hd h3] at hH
        cases hH
      · exact hw
end Go.Proofs.YtcbcdfdicefkoaaGreatDoor
