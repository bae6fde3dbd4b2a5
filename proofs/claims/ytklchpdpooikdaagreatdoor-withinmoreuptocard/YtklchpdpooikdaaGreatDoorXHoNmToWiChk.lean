/-
  host.isName and host.May: a name's bytes, and whether a general name may be, whole.
  Distinguished names as subtrees and as general names: isName of within and of host, hasName.
  Hosts' names: what a general name stands for lies where all of it, or some of it, lies. The maths of the statement WithinBoth. No program.
  within.May, All, Some, host.May: their answers, whole.
  within.Check.
-/
import Derived.Test.YtklchpdpooikdaaGreatDoorXWiHMayToWiAll
import Derived.Test.YtklchpdpooikdaaGreatDoorXNmDecW
import Derived.Test.YtklchpdpooikdaaGreatDoorXWiBitToWiMeets
import Derived.Test.YtklchpdpooikdaaGreatDoorXWiAll2ToWiMail
import Derived.Test.YtklchpdpooikdaaGreatDoorXWiMToWiRule
import Derived.Test.YtklchpdpooikdaaGreatDoorXWiIdxToHoMt
namespace Go.Proofs.YtklchpdpooikdaaGreatDoor
open Go.RowKit Go.Shelf Go.IntWalk

/-- Are these a name's bytes? -/
def wNM (b : List UInt8) : Bool := decide (ansE (nums b) = 0)
theorem ansN_small {xs : List Int} : ∀ x ∈ ansN xs, x.2.size ≤ 1048576 := by
  intro x hx
  unfold ansN at hx
  split at hx
  · cases hx
  · split at hx
    · rename_i h
      unfold okN at h
      rw [Bool.and_eq_true] at h
      have h2 := (name_all h.1).2 x hx
      have := attr_short h2
      omega
    · cases hx

set_option maxRecDepth 100000 in
set_option maxHeartbeats 1000000 in
theorem isNameH_kp (w0 : World) (b : List UInt8) (hb : b.length ≤ 1048576) (m : Int) (w : World) (hm : Kp w0 m w) :
    Calls Tryz.prog 50 #[.string (tx b)] w fun e w' => e = .returned (.bool (wNM b)) ∧ Kp w0 m w' := by
  obtain ⟨cap, w1, hcv, s1, B1⟩ := conv_any (tx b) (by rw [tx_size]; exact hb) w
  have d1 := hide (callsIn_wide.1 (decodeN_in _ _ _ _ w1 s1 (by rw [tx_size]; exact hb)))
  rw [tx_list] at d1
  have HW : Hid (wNM b = decide (ansE (nums b) = 0)) := rfl
  have K1 := hide (hm.next B1)
  clear hm B1 s1
  generalize ansE (nums b) = E at *
  generalize ansN (nums b) = A at *
  go_enter Tryz.func50, Tryz.ntmps50
  go_wp2_with fail
  refine d1.out.mono ?_
  rintro e w2 ⟨a2, m2, c2, rfl, _, B2⟩
  have K2 := hide (K1.out.next B2)
  have hq : (E == 0) = decide (E = 0) := by by_cases h : E = 0 <;> simp [h]
  clear d1 B2 K1
  go_wp2
  go_ret
  exact ⟨by rw [HW.out, ← hq]; rfl, K2.out⟩

def mayG (k : Int) (s : List UInt8) : Bool := hmay k s (wNM s)
theorem mayG_kp (w0 : World) (k : Int) (hk : (Lit.int .i64 k).wf = true) (s : List UInt8) (hs : s.length ≤ 1048576) (m : Int) (w : World) (hm : Kp w0 m w) :
    Calls Tryz.prog 13 #[.agg #[.int .i64 k, .string (tx s)]] w fun e w' => e = .returned (.bool (mayG k s)) ∧ Below w.heap.size w w' ∧ Kp w0 m w' :=
  (hmay_kp w k hk s hs (wNM s) m (fun _ W hW => isNameH_kp w s hs m W hW) w (Kp.refl hm.2)).mono fun _ _ ⟨h1, h2⟩ => ⟨h1, h2.1, hm.own h2⟩

end Go.Proofs.YtklchpdpooikdaaGreatDoor

namespace Go.Proofs.YtklchpdpooikdaaGreatDoor
open Go.RowKit Go.Shelf Go.IntWalk

/-- Does the name of these bytes begin with the other one? -/
def hNM (b s : List UInt8) : Bool := bg ((ansN (nums s)).map key) ((ansN (nums b)).map key)
theorem conv_base (s : ByteArray) (hs : s.size ≤ 1048576) (w : World) :
    ∃ cap w', (convert 53 64 (.string s)).run Tryz.prog w = .ok (.slice (some ⟨w.heap.size, 0, none⟩) s.size cap) w' ∧ Src w' (some ⟨w.heap.size, 0, none⟩) s.size cap (nums s.data.toList) ∧ Below w.heap.size w w' := by
  have hr := Lib.run_convert_string_bytes (P := Tryz.prog) w 53 64 5 s Tryz.underlying53 Tryz.underlying64 Tryz.underlying5
  obtain ⟨cap, w', h1, h2, h3⟩ := conv_any s hs w
  have hr2 := Lib.run_convert_string_bytes (P := Tryz.prog) w 9 64 5 s Tryz.underlying9 Tryz.underlying64 Tryz.underlying5
  rw [hr2] at h1
  exact ⟨cap, w', hr.trans h1, h2, h3⟩

set_option maxRecDepth 100000 in
set_option maxHeartbeats 1000000 in
theorem isName_kp (w0 : World) (b : List UInt8) (hb : b.length ≤ 1048576) (m : Int) (w : World) (hm : Kp w0 m w) :
    Calls Tryz.prog 78 #[.string (tx b)] w fun e w' => e = .returned (.bool (wNM b)) ∧ Kp w0 m w' := by
  obtain ⟨cap, w1, hcv, s1, B1⟩ := conv_base (tx b) (by rw [tx_size]; exact hb) w
  have d1 := hide (callsIn_wide.1 (decodeN_in _ _ _ _ w1 s1 (by rw [tx_size]; exact hb)))
  rw [tx_list] at d1
  have HW : Hid (wNM b = decide (ansE (nums b) = 0)) := rfl
  have K1 := hide (hm.next B1)
  clear hm B1 s1
  generalize ansE (nums b) = E at *
  generalize ansN (nums b) = A at *
  go_enter Tryz.func78, Tryz.ntmps78
  go_wp2_with fail
  refine d1.out.mono ?_
  rintro e w2 ⟨a2, m2, c2, rfl, _, B2⟩
  have K2 := hide (K1.out.next B2)
  have hq : (E == 0) = decide (E = 0) := by by_cases h : E = 0 <;> simp [h]
  clear d1 B2 K1
  go_wp2
  go_ret
  exact ⟨by rw [HW.out, ← hq]; rfl, K2.out⟩

set_option maxRecDepth 100000 in
set_option maxHeartbeats 1000000 in
theorem hasName_kp (w0 : World) (b s : List UInt8) (hb : b.length ≤ 1048576) (hs : s.length ≤ 1048576) (m : Int) (w : World) (hm : Kp w0 m w) :
    Calls Tryz.prog 79 #[.string (tx b), .string (tx s)] w fun e w' => e = .returned (.bool (hNM b s)) ∧ Kp w0 m w' := by
  obtain ⟨cap, w1, hcv, s1, B1⟩ := conv_any (tx s) (by rw [tx_size]; exact hs) w
  have d1 := hide (callsIn_wide.1 (decodeN_in _ _ _ _ w1 s1 (by rw [tx_size]; exact hs)))
  have HC := hide (fun W => conv_base (tx b) (by rw [tx_size]; exact hb) W)
  have d2 := hide (fun (W : World) (g c : Nat) (h : Src W (some ⟨g, 0, none⟩) (tx b).size c (nums (tx b).data.toList)) => callsIn_wide.1 (decodeN_in (some ⟨g, 0, none⟩) (tx b).size c _ W h (by rw [tx_size]; exact hb)))
  rw [tx_list] at d1 d2 HC
  have HW : Hid (hNM b s = bg ((ansN (nums s)).map key) ((ansN (nums b)).map key)) := rfl
  have Z1 := hide (ansN_small (xs := nums s))
  have Z2 := hide (ansN_small (xs := nums b))
  have K1 := hide (hm.next B1)
  clear hm B1 s1
  generalize ansE (nums b) = E1 at *
  generalize ansN (nums b) = A1 at *
  generalize ansE (nums s) = E2 at *
  generalize ansN (nums s) = A2 at *
  go_enter Tryz.func79, Tryz.ntmps79
  go_wp2_with fail
  refine d1.out.mono ?_
  rintro e w2 ⟨a2, m2, c2, rfl, o2, B2⟩
  have K2 := hide (K1.out.next B2)
  obtain ⟨cap3, w3, hcv3, s3, B3⟩ := HC.out w2
  have d3 := hide (d2.out w3 w2.heap.size cap3 s3)
  have T2 := hide ((o2.ats Z1.out).below B3)
  have K3 := hide (K2.out.next B3)
  clear d1 o2 B2 B3 K1 K2 HC d2 s3
  go_wp2_with fail
  refine d3.out.mono ?_
  rintro e w4 ⟨a4, m4, c4, rfl, o4, B4⟩
  have d4 := hide (begins_any a2 m2 c2 A2 a4 m4 c4 A1 w4 (T2.out.below B4) (o4.ats Z2.out))
  have K4 := hide (K3.out.next B4)
  clear d3 o4 B4 K3 T2
  go_wp2_with fail
  refine d4.out.mono ?_
  rintro e w5 ⟨rfl, B5⟩
  have K5 := hide (K4.out.next B5)
  clear d4 B5 K4
  go_wp2
  go_ret
  exact ⟨by rw [HW.out]; rfl, K5.out⟩

end Go.Proofs.YtklchpdpooikdaaGreatDoor

namespace Go.Proofs.YtklchpdpooikdaaGreatDoor

/-- The labels of a name, small. -/
def LS (a : List UInt8) : List (List UInt8) := labs (smallL a)
theorem bel_LS (a b : List UInt8) : belB a b = true ↔ dnsL a = true ∧ dnsL b = true ∧ LS b <:+ LS a := by
  rw [bel_labs, Bool.and_eq_true, Bool.and_eq_true, List.isSuffixOf_iff_suffix]
  exact Iff.rfl
theorem dns_star {r : List UInt8} : dnsL (42 :: 46 :: r) = false := by
  cases h : dnsL (42 :: 46 :: r) with
  | false => rfl
  | true =>
    have h1 := List.all_eq_true.1 (dns_labs h) [42] (by
      rw [labs_cut]
      have e : (cutD 46 (42 :: 46 :: r)).1 = [42] := by rw [cutD, if_neg (by decide), cutD, if_pos rfl]
      rw [e]
      simp)
    revert h1
    decide
theorem trim_star (r : List UInt8) : trimW (42 :: 46 :: r) = r := by
  unfold trimW Lib.trimPrefix Lib.hasPrefix
  simp [List.isPrefixOf]
theorem trim_dns {a : List UInt8} (h : dnsL a = true) : trimW a = a := by
  unfold trimW Lib.trimPrefix
  split
  · rename_i hp
    have hp2 : [42, 46] <+: a := List.isPrefixOf_iff_prefix.1 hp
    obtain ⟨t, ht⟩ := hp2
    subst ht
    rw [show [42, 46] ++ t = 42 :: 46 :: t from rfl, dns_star] at h
    cases h
  · rfl
theorem LS_star (r : List UInt8) : LS (42 :: 46 :: r) = [42] :: LS r := by
  unfold LS
  have e : smallL (42 :: 46 :: r) = 42 :: 46 :: smallL r := by
    show smallB 42 :: smallB 46 :: smallL r = _
    rfl
  rw [e, labs_cut]
  have e1 : cutD 46 (42 :: 46 :: smallL r) = ([42], smallL r, true) := by rw [cutD, if_neg (by decide), cutD, if_pos rfl]
  rw [e1]
  rfl
theorem LS_inj {a b : List UInt8} (h : LS a = LS b) : smallL a = smallL b := labs_inj h

/-- A pattern that is a host's name. -/
theorem match_dns {p s : List UInt8} (hp : dnsL p = true) : matchL p s = true ↔ dnsL s = true ∧ LS p = LS s := by
  unfold matchL
  rw [Bool.and_eq_true, if_pos hp, fold_small, decide_eq_true_eq]
  constructor
  · rintro ⟨h1, h2⟩
    exact ⟨h1, by unfold LS; rw [h2]⟩
  · rintro ⟨h1, h2⟩
    exact ⟨h1, LS_inj h2⟩
/-- A pattern that is wild. -/
theorem match_wild {r s : List UInt8} (hw : wildL (42 :: 46 :: r) = true) : matchL (42 :: 46 :: r) s = true ↔ dnsL s = true ∧ ∃ l, LS s = l :: LS r := by
  unfold matchL
  rw [Bool.and_eq_true, dns_star, if_neg (by decide), hw, Bool.true_and, fold_tail hw, decide_eq_true_eq]
  have e : labs (smallL (42 :: 46 :: r)) = [42] :: LS r := LS_star r
  rw [e]
  have e2 : labs (smallL s) = LS s := rfl
  rw [e2]
  constructor
  · rintro ⟨h1, h2, h3⟩
    refine ⟨h1, ?_⟩
    cases hl : LS s with
    | nil => rw [hl] at h2; simp at h2
    | cons l t => rw [hl] at h3; exact ⟨l, by simpa using h3.symm⟩
  · rintro ⟨h1, l, h2⟩
    refine ⟨h1, ?_, ?_⟩
    · rw [h2]; simp
    · rw [h2]; simp

/-- Where all that a name stands for lies, there lies each; where one of them lies, some does. -/
theorem both_in {g s b : List UInt8} (hg : dnsL g = true ∨ wildL g = true) (hm : matchL g s = true) :
    (belB (trimW g) b = true → belB (trimW s) b = true) ∧ (belB (trimW s) b = true → belB (trimW g) b = true ∨ matchL g b = true) := by
  have hs : dnsL s = true := by unfold matchL at hm; rw [Bool.and_eq_true] at hm; exact hm.1
  rw [trim_dns hs]
  by_cases hd : dnsL g = true
  · rw [trim_dns hd]
    have h1 := (match_dns hd).1 hm
    refine ⟨fun h => ?_, fun h => .inl ?_⟩
    · rw [bel_LS] at h ⊢
      exact ⟨hs, h.2.1, by rw [← h1.2]; exact h.2.2⟩
    · rw [bel_LS] at h ⊢
      exact ⟨hd, h.2.1, by rw [h1.2]; exact h.2.2⟩
  · have hw := hg.resolve_left hd
    obtain ⟨r, rfl, hr, _⟩ := wild_split hw
    rw [trim_star]
    obtain ⟨_, l, hl⟩ := (match_wild hw).1 hm
    refine ⟨fun h => ?_, fun h => ?_⟩
    · rw [bel_LS] at h ⊢
      refine ⟨hs, h.2.1, ?_⟩
      rw [hl]
      exact h.2.2.trans (List.suffix_cons _ _)
    · rw [bel_LS] at h
      have h2 := h.2.2
      rw [hl] at h2
      rcases List.suffix_cons_iff.1 h2 with h3 | h3
      · right
        rw [match_wild hw]
        exact ⟨h.2.1, l, h3⟩
      · left
        rw [bel_LS]
        exact ⟨hr, h.2.1, h3⟩
/-- What a host's name matches it lies below. -/
theorem dns_some {g b : List UInt8} (hd : dnsL g = true) (hm : matchL g b = true) : belB (trimW g) b = true := by
  have h1 := (match_dns hd).1 hm
  rw [trim_dns hd, bel_LS]
  exact ⟨hd, h1.1, by rw [h1.2]; exact List.suffix_refl _⟩
theorem match_kind {g s : List UInt8} (hm : matchL g s = true) : (dnsL g = true ∨ wildL g = true) ∧ dnsL s = true := by
  unfold matchL at hm
  rw [Bool.and_eq_true] at hm
  refine ⟨?_, hm.1⟩
  by_cases hd : dnsL g = true
  · exact .inl hd
  · have h2 := hm.2
    rw [if_neg hd, Bool.and_eq_true] at h2
    exact .inr h2.1

end Go.Proofs.YtklchpdpooikdaaGreatDoor

namespace Go.Proofs.YtklchpdpooikdaaGreatDoor
open Go.RowKit Go.Shelf Go.IntWalk

def mF : Nat → List UInt8 → Bool
  | 0, b => isMailL b
  | 1, b => dnsL b
  | 2, b => wNM b
  | _, b => isNetL b
def hF : Nat → List UInt8 → List UInt8 → Bool
  | 0, b, s => hasMailL b s
  | 1, b, s => belB (trimW s) b
  | 2, b, s => hNM b s
  | _, b, s => hasAddrL b s
def mayW (k : Int) (b : List UInt8) : Bool := decide (rAt k < 4) && mF (rAt k) b
def holL (k : Int) (b : List UInt8) (gk : Int) (s : List UInt8) : Bool := decide (k = gk) && hF (rAt k) b s
def meeL (k : Int) (b : List UInt8) (gk : Int) (s : List UInt8) : Bool := holL k b gk s || (decide (k = 2) && (decide (gk = 2) && matchL s b))
def allW (k : Int) (b : List UInt8) (gk : Int) (s : List UInt8) : Bool := mayW k b && (mayG gk s && holL k b gk s)
def somW (k : Int) (b : List UInt8) (gk : Int) (s : List UInt8) : Bool := mayW k b && (mayG gk s && meeL k b gk s)

theorem mayW_kp (w0 : World) (k : Int) (b : List UInt8) (hb : b.length ≤ 1048576) (m : Int) (w : World) (hm : Kp w0 m w) :
    Calls Tryz.prog 10 #[.agg #[.int .i64 k, .string (tx b)]] w fun e w' => e = .returned (.bool (mayW k b)) ∧ Below w.heap.size w w' ∧ Kp w0 m w' := by
  refine (wmay_kp w k b (mF (rAt k) b) m (fun h4 W hW => ?_) w (Kp.refl hm.2)).mono fun _ _ ⟨h1, h2⟩ => ⟨h1, h2.1, hm.own h2⟩
  match rAt k, h4 with
  | 0, _ => exact isMail_kp w b hb m W hW
  | 1, _ => exact isHost_kp w b hb m W hW
  | 2, _ => exact isName_kp w b hb m W hW
  | 3, _ => exact (isNet_any b hb W).mono fun _ _ ⟨h1, h2⟩ => ⟨h1, hW.next h2⟩
theorem net_eq {b : List UInt8} (h : isNetL b = true) : (b.drop (b.length / 2)).length = (b.take (b.length / 2)).length := by
  unfold isNetL at h
  rw [Bool.and_eq_true, Bool.and_eq_true, decide_eq_true_eq] at h
  exact h.2.1
theorem hol_kp (w0 : World) (k : Int) (b : List UInt8) (hb : b.length ≤ 1048576) (gk : Int) (s : List UInt8) (hs : s.length ≤ 1048576) (m : Int) (w : World) (hm : Kp w0 m w) (hA : mayW k b = true) :
    Calls Tryz.prog 20 #[.agg #[.int .i64 k, .string (tx b)], .agg #[.int .i64 gk, .string (tx s)]] w fun e w' => e = .returned (.bool (holL k b gk s)) ∧ Below w.heap.size w w' ∧ Kp w0 m w' := by
  unfold mayW at hA
  rw [Bool.and_eq_true, decide_eq_true_eq] at hA
  obtain ⟨h4, hM⟩ := hA
  refine (holds_kp w k b gk s (hF (rAt k) b s) m h4 (fun _ W hW => ?_) w (Kp.refl hm.2)).mono fun _ _ ⟨h1, h2⟩ => ⟨h1, h2.1, hm.own h2⟩
  match rAt k, h4, hM with
  | 0, _, _ => exact hasMail_kp w b s hb hs m W hW
  | 1, _, _ => exact hasHost_kp w b s hb hs m W hW
  | 2, _, _ => exact hasName_kp w b s hb hs m W hW
  | 3, _, hM => exact (hasAddress_any b s hb (net_eq hM) W).mono fun _ _ ⟨h1, h2⟩ => ⟨h1, hW.next h2⟩
theorem allW_kp (w0 : World) (k : Int) (b : List UInt8) (hb : b.length ≤ 1048576) (gk : Int) (hk : (Lit.int .i64 gk).wf = true) (s : List UInt8) (hs : s.length ≤ 1048576) (m : Int) (w : World) (hm : Kp w0 m w) :
    Calls Tryz.prog 14 #[.agg #[.int .i64 k, .string (tx b)], .agg #[.int .i64 gk, .string (tx s)]] w fun e w' => e = .returned (.bool (allW k b gk s)) ∧ Below w.heap.size w w' ∧ Kp w0 m w' :=
  (all_kp w k b gk s (mayW k b) (mayG gk s) (holL k b gk s) m w (Kp.refl hm.2) (fun W hW => mayW_kp w k b hb m W hW) (fun _ W hW => mayG_kp w gk hk s hs m W hW)
    (fun hA _ W hW => (hol_kp w k b hb gk s hs m W hW hA).mono fun _ _ ⟨h1, _, h2⟩ => ⟨h1, h2⟩)).mono fun _ _ ⟨h1, h2⟩ => ⟨h1, h2.1, hm.own h2⟩
theorem somW_kp (w0 : World) (k : Int) (b : List UInt8) (hb : b.length ≤ 1048576) (gk : Int) (hk : (Lit.int .i64 gk).wf = true) (s : List UInt8) (hs : s.length ≤ 1048576) (m : Int) (w : World) (hm : Kp w0 m w) :
    Calls Tryz.prog 12 #[.agg #[.int .i64 k, .string (tx b)], .agg #[.int .i64 gk, .string (tx s)]] w fun e w' => e = .returned (.bool (somW k b gk s)) ∧ Below w.heap.size w w' ∧ Kp w0 m w' :=
  (some_kp w k b gk s (mayW k b) (mayG gk s) (meeL k b gk s) m w (Kp.refl hm.2) (fun W hW => mayW_kp w k b hb m W hW) (fun _ W hW => mayG_kp w gk hk s hs m W hW)
    (fun hA _ W hW => meets_kp w k b gk s (holL k b gk s) (matchL s b) m W hW (fun V hV => hol_kp w k b hb gk s hs m V hV hA)
      (fun _ _ V hV => (match_any s b hs hb m V hV.2).mono fun _ _ ⟨h1, h2⟩ => ⟨h1, hV.next h2⟩))).mono fun _ _ ⟨h1, h2⟩ => ⟨h1, h2.1, hm.own h2⟩

/-- What the statement says, of the answers alone. -/
theorem both_some {k : Int} {b : List UInt8} {gk : Int} {s : List UInt8} :
    (allW k b gk s = true → somW k b gk s = true) ∧ (somW k b gk s = true → mayW k b = true ∧ mayG gk s = true ∧ k = gk) ∧ (allW k b gk s = false → somW k b gk s = true → wildL s = true) := by
  refine ⟨fun h => ?_, fun h => ?_, fun h h2 => ?_⟩
  · unfold allW at h
    unfold somW meeL
    simp only [Bool.and_eq_true] at h
    rw [h.1, h.2.1, h.2.2]
    rfl
  · unfold somW meeL at h
    simp only [Bool.and_eq_true, Bool.or_eq_true, decide_eq_true_eq] at h
    refine ⟨h.1, h.2.1, ?_⟩
    rcases h.2.2 with h3 | h3
    · unfold holL at h3
      simp only [Bool.and_eq_true, decide_eq_true_eq] at h3
      exact h3.1
    · rw [h3.1, h3.2.1]
  · unfold somW meeL at h2
    simp only [Bool.and_eq_true, Bool.or_eq_true, decide_eq_true_eq] at h2
    have hH : holL k b gk s = false := by
      cases hq : holL k b gk s with
      | false => rfl
      | true => unfold allW at h; rw [h2.1, h2.2.1, hq] at h; cases h
    rcases h2.2.2 with h3 | ⟨rfl, rfl, h3⟩
    · rw [hH] at h3; cases h3
    · rcases (match_kind h3).1 with hd | hw
      · unfold holL at hH
        have h5 : hF (rAt 2) b s = belB (trimW s) b := rfl
        rw [h5, dns_some hd h3] at hH
        cases hH
      · exact hw
theorem both_match {k : Int} {b g s : List UInt8} (hm : matchL g s = true) :
    (allW k b 2 g = true → allW k b 2 s = true) ∧ (allW k b 2 s = true → somW k b 2 g = true) := by
  obtain ⟨hg, hs⟩ := match_kind hm
  obtain ⟨h1, h2⟩ := both_in (b := b) hg hm
  have hGs : mayG 2 s = true := by unfold mayG hmay; simp [hs]
  have hGg : mayG 2 g = true := by
    unfold mayG hmay
    rcases hg with h | h <;> simp [h]
  refine ⟨fun h => ?_, fun h => ?_⟩
  · unfold allW holL at h ⊢
    simp only [Bool.and_eq_true, decide_eq_true_eq] at h ⊢
    obtain ⟨hA, _, rfl, hH⟩ := h
    have h5 : hF (rAt 2) b g = belB (trimW g) b := rfl
    have h6 : hF (rAt 2) b s = belB (trimW s) b := rfl
    rw [h5] at hH
    rw [h6]
    exact ⟨hA, hGs, rfl, h1 hH⟩
  · unfold allW holL at h
    unfold somW meeL holL
    simp only [Bool.and_eq_true, Bool.or_eq_true, decide_eq_true_eq] at h ⊢
    obtain ⟨hA, _, rfl, hH⟩ := h
    have h5 : hF (rAt 2) b g = belB (trimW g) b := rfl
    have h6 : hF (rAt 2) b s = belB (trimW s) b := rfl
    rw [h6] at hH
    rw [h5]
    refine ⟨hA, hGg, ?_⟩
    rcases h2 hH with h | h
    · exact .inl ⟨by trivial, h⟩
    · exact .inr ⟨by trivial, by trivial, h⟩

end Go.Proofs.YtklchpdpooikdaaGreatDoor

namespace Go.Proofs.YtklchpdpooikdaaGreatDoor
open Go.RowKit Go.IntWalk Go.Shelf

/-- The memory of Check: what stood stands, and the general name's box. -/
def InG (w0 : World) (m : Int) (B : Nat) (gk : Int) (g : List UInt8) (W : World) : Prop := Kp w0 m W ∧ W.cell? ⟨B, 0, none⟩ = some (.int .i64 gk) ∧ W.cell? ⟨B, 1, none⟩ = some (.string (tx g))
theorem InG.next {w0 : World} {m : Int} {B : Nat} {gk : Int} {g : List UInt8} {W W' : World} (h : InG w0 m B gk g W) (hb : Below W.heap.size W W') : InG w0 m B gk g W' :=
  ⟨h.1.next hb, (hb.cell (lt_of_cell h.2.1)).trans h.2.1, (hb.cell (lt_of_cell h.2.2)).trans h.2.2⟩
theorem InG.to {w0 w : World} {m : Int} {B : Nat} {gk : Int} {g : List UInt8} {W : World} (h : InG w0 m B gk g w) (h' : InG w m B gk g W) : InG w0 m B gk g W := ⟨h.1.own h'.1, h'.2⟩
theorem InG.here {w0 w : World} {m : Int} {B : Nat} {gk : Int} {g : List UInt8} (h : InG w0 m B gk g w) : InG w m B gk g w := ⟨Kp.refl h.1.2, h.2⟩

set_option maxRecDepth 100000 in
theorem notC_any (w0 : World) (m : Int) (B : Nat) (gk : Int) (g : List UInt8) (k : Int) (b : List UInt8) (hb : b.length ≤ 1048576) (W : World) (h : InG w0 m B gk g W) :
    Calls Tryz.prog 15 #[.agg #[.int .i64 k, .string (tx b)]] W fun e w' => e = .returned (.bool (!mayW k b)) ∧ InG w0 m B gk g w' := by
  have BX := nbelowW W (.cells #[.int .i64 k, .string (tx b)] 36)
  have c0 : (W.alloc (.cells #[.int .i64 k, .string (tx b)] 36)).cell? ⟨W.heap.size, 0, none⟩ = some (.int .i64 k) := by simp
  have c1 : (W.alloc (.cells #[.int .i64 k, .string (tx b)] 36)).cell? ⟨W.heap.size, 1, none⟩ = some (.string (tx b)) := by simp
  have d1 := hide (mayW_kp W k b hb m _ (Kp.next (Kp.refl h.1.2) BX))
  have HX := hide h
  generalize mayW k b = M at *
  clear h
  go_enter Tryz.func15, Tryz.ntmps15
  go_wp2_with fail
  refine d1.out.mono ?_
  rintro e w1 ⟨rfl, B1, _⟩
  go_wp2
  go_ret
  exact ⟨rfl, (HX.out.next BX).next B1⟩
set_option maxRecDepth 100000 in
theorem kindC_any (w0 : World) (m : Int) (B : Nat) (gk : Int) (g : List UInt8) (k : Int) (b : List UInt8) (W : World) (h : InG w0 m B gk g W) :
    Calls Tryz.prog 18 #[.agg #[.int .i64 k, .string (tx b)], .pointer (some ⟨B, 0, none⟩)] W fun e w' => e = .returned (.bool (decide (k = gk))) ∧ InG w0 m B gk g w' := by
  have BX := nbelowW W (.cells #[.int .i64 k, .string (tx b)] 36)
  have c0 : (W.alloc (.cells #[.int .i64 k, .string (tx b)] 36)).cell? ⟨W.heap.size, 0, none⟩ = some (.int .i64 k) := by simp
  have c1 : (W.alloc (.cells #[.int .i64 k, .string (tx b)] 36)).cell? ⟨W.heap.size, 1, none⟩ = some (.string (tx b)) := by simp
  have h1 := h.next BX
  obtain ⟨_, g0, g1⟩ := h1
  have HX := hide (h.next BX)
  have hq : (k == gk) = decide (k = gk) := by by_cases e : k = gk <;> simp [e]
  generalize decide (k = gk) = D at *
  clear h
  go_enter Tryz.func18, Tryz.ntmps18
  go_wp2
  go_ret
  exact ⟨by first | rfl | (rw [← hq]; rfl), HX.out⟩
set_option maxRecDepth 100000 in
theorem takesC_any (w0 : World) (m : Int) (B : Nat) (gk : Int) (g : List UInt8) (hg : g.length ≤ 1048576) (k : Int) (b : List UInt8) (hb : b.length ≤ 1048576) (hM : mayW k b = true) (W : World) (h : InG w0 m B gk g W) :
    Calls Tryz.prog 19 #[.agg #[.int .i64 k, .string (tx b)], .pointer (some ⟨B, 0, none⟩)] W fun e w' => e = .returned (.bool (holL k b gk g)) ∧ InG w0 m B gk g w' := by
  have BX := nbelowW W (.cells #[.int .i64 k, .string (tx b)] 36)
  have c0 : (W.alloc (.cells #[.int .i64 k, .string (tx b)] 36)).cell? ⟨W.heap.size, 0, none⟩ = some (.int .i64 k) := by simp
  have c1 : (W.alloc (.cells #[.int .i64 k, .string (tx b)] 36)).cell? ⟨W.heap.size, 1, none⟩ = some (.string (tx b)) := by simp
  have h1 := h.next BX
  obtain ⟨_, g0, g1⟩ := h1
  have d1 := hide (hol_kp W k b hb gk g hg m _ (Kp.next (Kp.refl h.1.2) BX) hM)
  have HX := hide (h.next BX)
  generalize holL k b gk g = D at *
  clear h hM
  go_enter Tryz.func19, Tryz.ntmps19
  go_wp2_with fail
  refine d1.out.mono ?_
  rintro e w1 ⟨rfl, B1, _⟩
  go_wp2
  go_ret
  exact ⟨rfl, HX.out.next B1⟩
set_option maxRecDepth 100000 in
theorem meetC_any (w0 : World) (m : Int) (B : Nat) (gk : Int) (g : List UInt8) (hg : g.length ≤ 1048576) (k : Int) (b : List UInt8) (hb : b.length ≤ 1048576) (hM : mayW k b = true) (W : World) (h : InG w0 m B gk g W) :
    Calls Tryz.prog 22 #[.agg #[.int .i64 k, .string (tx b)], .pointer (some ⟨B, 0, none⟩)] W fun e w' => e = .returned (.bool (meeL k b gk g)) ∧ InG w0 m B gk g w' := by
  have BX := nbelowW W (.cells #[.int .i64 k, .string (tx b)] 36)
  have c0 : (W.alloc (.cells #[.int .i64 k, .string (tx b)] 36)).cell? ⟨W.heap.size, 0, none⟩ = some (.int .i64 k) := by simp
  have c1 : (W.alloc (.cells #[.int .i64 k, .string (tx b)] 36)).cell? ⟨W.heap.size, 1, none⟩ = some (.string (tx b)) := by simp
  have h1 := h.next BX
  obtain ⟨_, g0, g1⟩ := h1
  have d1 : Hid (Calls Tryz.prog 23 #[.agg #[.int .i64 k, .string (tx b)], .agg #[.int .i64 gk, .string (tx g)]] (W.alloc (.cells #[.int .i64 k, .string (tx b)] 36)) fun e w' => e = .returned (.bool (meeL k b gk g)) ∧ Below (W.alloc (.cells #[.int .i64 k, .string (tx b)] 36)).heap.size (W.alloc (.cells #[.int .i64 k, .string (tx b)] 36)) w') :=
    (meets_kp _ k b gk g (holL k b gk g) (matchL g b) m _ (Kp.refl (Kp.next (Kp.refl h.1.2) BX).2) (fun V hV => hol_kp _ k b hb gk g hg m V hV hM)
      (fun _ _ V hV => (match_any g b hg hb m V hV.2).mono fun _ _ ⟨h1, h2⟩ => ⟨h1, hV.next h2⟩)).mono fun _ _ ⟨h1, h2⟩ => ⟨h1, h2.1⟩
  have HX := hide (h.next BX)
  generalize meeL k b gk g = D at *
  clear h hM
  go_enter Tryz.func22, Tryz.ntmps22
  go_wp2_with fail
  refine d1.out.mono ?_
  rintro e w1 ⟨rfl, B1⟩
  go_wp2
  go_ret
  exact ⟨rfl, HX.out.next B1⟩

def notP (x : Int × ByteArray) : Bool := !mayW x.1 x.2.data.toList
def kindP (gk : Int) (x : Int × ByteArray) : Bool := decide (x.1 = gk)
def takesP (gk : Int) (g : List UInt8) (x : Int × ByteArray) : Bool := holL x.1 x.2.data.toList gk g
def meetP (gk : Int) (g : List UInt8) (x : Int × ByteArray) : Bool := meeL x.1 x.2.data.toList gk g
/-- What Check answers: the place, the error. -/
def chkV (ps es : List (Int × ByteArray)) (gk : Int) (g : List UInt8) : Int × Int :=
  if mayG gk g = false then (0, 130) else if 0 ≤ idxT notP (ps ++ es) then (idxT notP (ps ++ es), 140) else
  if 0 ≤ idxT (kindP gk) ps ∧ ¬ 0 ≤ idxT (takesP gk g) ps then (0, 141) else if 0 ≤ idxT (meetP gk g) es then (idxT (meetP gk g) es, 142) else (0, 0)

theorem idxF_neg (p : Int × ByteArray → Bool) : ∀ (xs : List (Int × ByteArray)) (k : Nat), ¬ 0 ≤ idxF p k xs → ∀ x ∈ xs, p x = false
  | [], _, _, _, h => by cases h
  | y :: r, k, h, x, hx => by
    rw [idxF] at h
    by_cases hp : p y = true
    · rw [if_pos hp] at h; omega
    · rw [if_neg hp] at h
      rcases List.mem_cons.1 hx with rfl | hx
      · simpa using hp
      · exact idxF_neg p r (k + 1) h x hx
theorem idxF_range (p : Int × ByteArray → Bool) : ∀ (xs : List (Int × ByteArray)) (k : Nat), idxF p k xs = -1 ∨ ((k : Int) ≤ idxF p k xs ∧ idxF p k xs < k + xs.length)
  | [], _ => .inl rfl
  | y :: r, k => by
    rw [idxF]
    by_cases hp : p y = true
    · rw [if_pos hp]; right; simp; omega
    · rw [if_neg hp]
      rcases idxF_range p r (k + 1) with h | ⟨h1, h2⟩
      · exact .inl h
      · right; simp only [List.length_cons]; omega

end Go.Proofs.YtklchpdpooikdaaGreatDoor
