/-
  The reference's Length at a number from 0 to 2^24 - 1 answers the bytes of that length, in new memory.
  The reference's Bytes and Put answer as the plain functions say, in new memory.
  Layer 3's statements' own helpers over numbers: 'lent' copies numbers and lays a mark behind them; the document's Compare; 'same'; 'kept'; 'names'.
  The document's Compare says of any two lists of numbers what the plain function cmpS says; it writes nothing.
  Layer 3's statements' own 'same', 'kept', 'names' over lists of numbers.
  oid.May says of any list of numbers whether it is an object identifier (mayS); it writes nothing.
  The document's May says of any list of numbers whether it is an object identifier (mayS); it writes nothing.
-/
import Derived.Test.YtklchpdpooikdaaGreatDoorChecked
import Derived.Test.YtklchpdpooikdaaGreatDoorXCloneToFindIt
import Derived.Test.YtklchpdpooikdaaGreatDoorXBaseToBts
import Derived.Test.YtklchpdpooikdaaGreatDoorXTxL0ToPut
import Derived.Test.YtklchpdpooikdaaGreatDoorXOneToRTag
import Derived.Test.YtklchpdpooikdaaGreatDoorXItsToNextS
import Derived.Deep.QuietTactic
import Derived.BigQuiet
import Derived.Lib.Small
namespace Go.Proofs.YtklchpdpooikdaaGreatDoor
open Go.RowKit


set_option maxRecDepth 100000 in
set_option maxHeartbeats 1000000 in
theorem length_any (n : Nat) (w : World) (h : (n : Int) ≤ 16777215) :
    Calls Tryz.prog 158 #[.int .i64 n] w fun e w' => ∃ v, e = .returned v ∧ w'.ownsRow w.heap.size 5 1 v (lenB n).length ((lenB n).map (Value.int .u8)) ∧ Below w.heap.size w w' := by
  obtain ⟨i0, hi, hz0, hz1, hz2⟩ := info_parts Tryz.infoB
  by_cases hs : (n : Int) < 128
  · go_enter Tryz.func158, Tryz.ntmps158
    go_wp2
    go_ret
    have e1 : lenB n = [(n : Int)] := by unfold lenB; rw [if_pos (by omega)]
    rw [e1]
    exact ⟨_, rfl, own_lit _ _ [_] 1 rfl (Nat.le_refl _) (by decide), (Below.refl _ _).alloc (Nat.le_refl _) _⟩
  · go_enter Tryz.func158, Tryz.ntmps158
    go_wp2
    go_loopw [0, 3] (fun s v wr => ∃ (m : Nat) (xs : List Int), m ≤ n ∧ s = .int .i64 m ∧ Hid (digs n = digs m ++ xs) ∧ xs.length ≤ 3 ∧ wr.ownsRow w.heap.size 5 1 v xs.length (xs.map (Value.int .u8)) ∧ Below w.heap.size w wr)
      (fun s _ _ => (intOf s).toNat)
    case atStart => exact ⟨n, [], Nat.le_refl _, rfl, by simp [Hid], by simp, World.ownsRow_nil _ _ _ _, Below.refl _ _⟩
    case round =>
      obtain ⟨m, xs, hm, rfl, hd, hxl, hown, hbel⟩ := hrel
      have hsz := hbel.size
      have hgt : ¬ n < 128 := by omega
      by_cases hm0 : (m : Int) = 0
      · obtain rfl : m = 0 := by omega
        obtain rfl : digs n = xs := by simpa [digs_zero] using hd.out
        have hdl := digs_len n
        have hlb : lenB n = (128 + ((digs n).length : Int)) :: digs n := by unfold lenB; rw [if_neg hgt]
        have hne : digs n ≠ [] := by unfold digs; rw [if_neg (by omega)]; split <;> (try split) <;> simp
        have HL := hide hlb
        clear hlb hd hxl
        rcases own_split hown with ⟨_, he, hx⟩ | ⟨g, cap, rfl, hbg, hgs, hnc, hcm⟩
        · simp at hx; exact absurd hx hne
        · clear hne
          generalize digs n = xs at *
          go_wp2_with (at_builtin; refine wpList_append_own _ rfl _ _ 64 rfl w.heap.size 5 i0 (.int .u8 0) 1 1 Tryz.underlying64 hi hz0 hz1 hz2 rfl (by decide) _ 1 [.int .u8 (128 + (xs.length : Int))] rfl (own_lit _ _ [_] 1 rfl hsz (by decide)) ⟨g, 0, none⟩ xs.length cap (xs.map (Value.int .u8)) rfl (by simp) (own_cells (hown.alloc _)) (ints_one _ _) (by unfold maxLen; omega) (by omega) (by simp; omega) ?_; intro v' w' ho' hg' _)
          go_ret
          rw [unhide HL]
          refine ⟨_, rfl, ?_, ?_⟩
          · simpa [Nat.add_comm] using ho'
          · exact (hbel.alloc hsz _).grown hg' (by simp; omega) (by intro k hk; cases hk; exact hsz)
      · have hst := digs_step m (by omega) (by omega)
        have HS := hide hst
        clear hst
        rcases own_split hown with ⟨rfl, he, hx⟩ | ⟨g, cap, rfl, hbg, hgs, hnc, hcm⟩
        · obtain rfl : xs = [] := by simpa using hx
          clear he hx
          go_wp2_with (at_builtin; refine wpList_append_own_none rfl _ _ 64 rfl w.heap.size 5 i0 1 Tryz.underlying64 hi _ 1 [.int .u8 (m % 256)] rfl (own_lit _ _ [_] 1 rfl hsz (by decide)) rfl ?_)
          go_roundw
          case rel => exact ⟨m / 256, [((m % 256 : Nat) : Int)], by omega, by go_num, by unfold Hid; rw [hd.out, unhide HS]; simp, by simp, own_lit _ _ [_] 1 rfl hsz (by decide), hbel.alloc hsz _⟩
          case measure => simp [intOf]; omega
        · go_wp2_with (at_builtin; refine wpList_append_own _ rfl _ _ 64 rfl w.heap.size 5 i0 (.int .u8 0) 1 1 Tryz.underlying64 hi hz0 hz1 hz2 rfl (by decide) _ 1 [.int .u8 (m % 256)] rfl (own_lit _ _ [_] 1 rfl hsz (by decide)) ⟨g, 0, none⟩ xs.length cap (xs.map (Value.int .u8)) rfl (by simp) (own_cells (hown.alloc _)) (ints_one _ _) (by unfold maxLen; omega) (by omega) (by simp; omega) ?_; intro v' w' ho' hg' _)
          go_roundw
          case rel =>
            have hl3 := digs_len n
            rw [hd.out, unhide HS] at hl3
            simp at hl3
            exact ⟨m / 256, ((m % 256 : Nat) : Int) :: xs, by omega, by go_num, by unfold Hid; rw [hd.out, unhide HS]; simp, by simp; omega, by simpa [Nat.add_comm] using ho', (hbel.alloc hsz _).grown hg' (by simp; omega) (by intro k hk; cases hk; exact hsz)⟩
          case measure => simp [intOf]; omega

end Go.Proofs.YtklchpdpooikdaaGreatDoor

namespace Go.Proofs.YtklchpdpooikdaaGreatDoor
open Go.RowKit Go.IntWalk

theorem lenB_byte (n : Nat) (h : n < 16777216) : ∀ x ∈ lenB n, 0 ≤ x ∧ x < 256 := by
  intro x hx
  unfold lenB at hx
  split at hx
  · simp at hx; omega
  · have := digs_len n
    simp at hx
    rcases hx with hx | hx
    · omega
    · exact digs_byte n h x hx

theorem lenB_ne (n : Nat) : lenB n ≠ [] := by
  unfold lenB; split <;> simp

theorem length_own (n : Nat) (w : World) (h : (n : Int) ≤ 16777215) :
    Calls Tryz.prog 158 #[.int .i64 n] w fun e w' => ∃ g c', e = .returned (.slice (some ⟨g, 0, none⟩) (lenB n).length c') ∧ OwnB w' w.heap.size (.slice (some ⟨g, 0, none⟩) (lenB n).length c') (lenB n) ∧ Below w.heap.size w w' := by
  refine (length_any n w h).mono ?_
  rintro e w' ⟨v, rfl, ho, hb⟩
  rcases OwnB.split ho with ⟨_, hx⟩ | ⟨g, c', rfl, _⟩
  · exact absurd hx (lenB_ne n)
  · exact ⟨g, c', rfl, ho, hb⟩

set_option maxRecDepth 100000 in
set_option maxHeartbeats 2000000 in
theorem bytes_any (tag : Int) (a : Option Addr) (m c : Nat) (xs : List Int) (w : World) (hs : Src w a m c xs) (ht0 : 0 ≤ tag) (ht1 : tag ≤ 255) (hm : (m : Int) ≤ 16777215) :
    Calls Tryz.prog 132 #[.agg #[.int .i64 tag, .slice a m c]] w fun e w' => ∃ g c', e = .returned (.slice (some ⟨g, 0, none⟩) (1 + (lenB m).length + m) c') ∧
      OwnB w' w.heap.size (.slice (some ⟨g, 0, none⟩) (1 + (lenB m).length + m) c') ([tag] ++ lenB m ++ xs) ∧ Below w.heap.size w w' := by
  have hl := hide hs.hlen
  have hl5 : (lenB m).length ≤ 4 := by
    unfold lenB; split
    · simp
    · have := digs_len m; simp; omega
  have hby := hide (lenB_byte m (by omega))
  go_enter Tryz.func132, Tryz.ntmps132
  go_wp2_with (first | (at_builtin; refine wpList_appN _ rfl (.tmp 4) (.tmp 8) rfl (w.heap.size + 1) (.slice none 0 0) [] rfl (OwnB.nil _ _) (some ⟨w.heap.size + 1, 0, none⟩) 1 1 [tag] rfl (Src.litAt [tag] _ 1 _ rfl rfl (by simp; omega) (by decide) (by simp)) 1 rfl (.inr (by simp)) (by omega) (by simp) ?_; intro g1 c1 w1 ho1 hb1 hl1 hc1 hm1 hg1; have y1 : w1.cell? ⟨w.heap.size, 1, none⟩ = some (.slice a m c) := hg1.cell (by simp) (by simp [Value.ownBlock]); have bw1 : Below (w.heap.size + 1) (w.alloc (.cells #[.int .i64 tag, .slice a m c] 74)) w1 := (((Below.refl _ _).alloc (by simp) _).grown hg1 (by simp) (by intro k hk; cases hk)); have z1 := bw1.size; rw [World.size_alloc] at z1) | (go_at_call 158; refine (length_own m _ hm).mono ?_; rintro e w2 ⟨g2, c2, rfl, ho2, bel2⟩; have z2 := bel2.size; have y2 : w2.cell? ⟨w.heap.size, 1, none⟩ = some (.slice a m c) := (bel2.cell (p := ⟨w.heap.size, 1, none⟩) (by show w.heap.size < w1.heap.size; omega)).trans y1; have bw2 := bw1.trans (bel2.mono z1)) | (at_builtin; refine wpList_appN _ rfl (.tmp 10) (.tmp 14) rfl (w.heap.size + 1) (.slice (some ⟨g1, 0, none⟩) 1 c1) [tag] rfl (ho1.belowA bel2) (some ⟨g2, 0, none⟩) (lenB m).length c2 (lenB m) rfl (ho2.toSrc hby.out) (1 + (lenB m).length) (by simp; omega) (.inl (by simp)) (by omega) (by omega) ?_; intro g3 c3 w3 ho3 hb3 hl3 hc3 hm3 hg3; have z3 := hg3.size; have y3 : w3.cell? ⟨w.heap.size, 1, none⟩ = some (.slice a m c) := hg3.cell y2 (by simp [Value.ownBlock]; omega); have bw3 := bw2.grown hg3 (by omega) (by intro k hk; cases hk; exact hb1)) | (at_builtin; refine wpList_appN _ rfl (.tmp 16) (.tmp 18) rfl (w.heap.size + 1) (.slice (some ⟨g3, 0, none⟩) (1 + (lenB m).length) c3) ([tag] ++ lenB m) rfl ho3 a m c xs rfl ((hs.alloc _).below (bw3.mono (by simp))) (1 + (lenB m).length + m) (by simp [hl.out]; omega) (.inl (by simp)) (by omega) (by omega) ?_; intro g4 c4 w4 ho4 hb4 hl4 hc4 hm4 hg4; have bw4 := bw3.grown hg4 (by omega) (by intro k hk; cases hk; exact hb3)))
  go_ret
  exact ⟨g4, c4, rfl, ho4.rebase (by omega), ((Below.refl _ _).alloc (Nat.le_refl _) _).trans (bw4.mono (by omega))⟩

end Go.Proofs.YtklchpdpooikdaaGreatDoor

namespace Go.Proofs.YtklchpdpooikdaaGreatDoor
open Go.RowKit Go.IntWalk

/-- Of two lists of numbers: which comes first. -/
def cmpS : List Int → List Int → Int
  | [], [] => 0
  | [], _ :: _ => -1
  | _ :: _, [] => 1
  | x :: xs, y :: ys => if x < y then -1 else if y < x then 1 else cmpS xs ys

theorem cmpS_refl (xs : List Int) : cmpS xs xs = 0 := by
  induction xs with
  | nil => rfl
  | cons x xs ih => simp [cmpS, ih]

theorem cmpS_eq {xs ys : List Int} (h : cmpS xs ys = 0) : xs = ys := by
  induction xs generalizing ys with
  | nil => cases ys <;> simp_all [cmpS]
  | cons x xs ih =>
    cases ys with
    | nil => simp [cmpS] at h
    | cons y ys =>
      simp only [cmpS] at h
      split at h
      · simp at h
      · split at h
        · simp at h
        · rw [ih h]; congr 1; omega

theorem cmpS_drop (xs ys : List Int) (k : Nat) (hx : k < xs.length) (hy : k < ys.length) :
    cmpS (xs.drop k) (ys.drop k) = if xs.getD k 0 < ys.getD k 0 then -1 else if ys.getD k 0 < xs.getD k 0 then 1 else cmpS (xs.drop (k + 1)) (ys.drop (k + 1)) := by
  rw [List.drop_eq_getElem_cons hx, List.drop_eq_getElem_cons hy]
  simp [cmpS, List.getD, hx, hy]

theorem cmpS_endL (xs ys : List Int) (k : Nat) (hx : xs.length ≤ k) (hy : k < ys.length) : cmpS (xs.drop k) (ys.drop k) = -1 := by
  rw [List.drop_eq_nil_of_le hx, List.drop_eq_getElem_cons hy]; rfl

theorem cmpS_endR (xs ys : List Int) (k : Nat) (hx : k < xs.length) (hy : ys.length ≤ k) : cmpS (xs.drop k) (ys.drop k) = 1 := by
  rw [List.drop_eq_nil_of_le hy, List.drop_eq_getElem_cons hx]; rfl

theorem cmpS_end (xs ys : List Int) (k : Nat) (hx : xs.length ≤ k) (hy : ys.length ≤ k) : cmpS (xs.drop k) (ys.drop k) = 0 := by
  rw [List.drop_eq_nil_of_le hx, List.drop_eq_nil_of_le hy]; rfl

end Go.Proofs.YtklchpdpooikdaaGreatDoor

namespace Go.Proofs.YtklchpdpooikdaaGreatDoor
open Go.RowKit Go.IntWalk

theorem getD_bound {xs : List Int} {k : Nat} (hb : ∀ x ∈ xs, -9223372036854775808 ≤ x ∧ x < 9223372036854775808) : -9223372036854775808 ≤ xs.getD k 0 ∧ xs.getD k 0 < 9223372036854775808 := by
  rcases Nat.lt_or_ge k xs.length with h | h
  · rw [List.getD, List.getElem?_eq_getElem h]; exact hb _ (List.getElem_mem _)
  · rw [List.getD, List.getElem?_eq_none h]; decide

end Go.Proofs.YtklchpdpooikdaaGreatDoor

namespace Go.Proofs.YtklchpdpooikdaaGreatDoor
open Go.RowKit Go.IntWalk

theorem cutA_zero (ao : Option Addr) (c : Nat) : cutA ao c 0 = ao := by
  unfold cutA
  split
  · rfl
  · cases ao with
    | none => rfl
    | some a => obtain ⟨b, o, s⟩ := a; cases s <;> simp [Addr.add]

theorem SrcI.head {w : World} {ao : Option Addr} {n c : Nat} {xs : List Int} (hs : SrcI w ao n c xs) (h : Nat) (hh : h ≤ n) : SrcI w ao h c (xs.take h) := by
  have := hs.cut 0 h (Nat.zero_le _) hh
  simpa [cutA_zero] using this

end Go.Proofs.YtklchpdpooikdaaGreatDoor

namespace Go.Proofs.YtklchpdpooikdaaGreatDoor
open Go.RowKit Go.IntWalk

/-- Is one arc within its bounds? -/
def arcB (x : Int) : Bool := decide (0 ≤ x) && decide (x ≤ 2147483647)

/-- Is the second arc within its bounds under the first? -/
def pairB (x y : Int) : Bool := if x < 2 then decide (y ≤ 39) else if x = 2 then decide (y ≤ 2147483567) else false

/-- Are these arcs an object identifier? -/
def mayS (xs : List Int) : Bool := decide (2 ≤ xs.length) && decide (xs.length ≤ 20) && xs.all arcB && pairB (xs.getD 0 0) (xs.getD 1 0)

theorem all_next {xs : List Int} (k : Nat) (h : (xs.take k).all arcB = true) (hk : k < xs.length) (hx : arcB (xs.getD k 0) = true) : (xs.take (k + 1)).all arcB = true := by
  rw [List.take_add_one, List.all_append, h]
  rw [List.getD, List.getElem?_eq_getElem hk] at hx
  rw [List.getElem?_eq_getElem hk]
  simpa using hx

theorem all_not {xs : List Int} (k : Nat) (hk : k < xs.length) (hx : arcB (xs.getD k 0) = false) : xs.all arcB = false := by
  rw [List.getD, List.getElem?_eq_getElem hk] at hx
  rw [List.all_eq_false]
  exact ⟨xs[k], List.getElem_mem _, by simpa using hx⟩

theorem mayS_not {xs : List Int} (h : xs.all arcB = false) : mayS xs = false := by unfold mayS; rw [h]; simp

set_option maxRecDepth 100000 in
set_option maxHeartbeats 1000000 in
theorem mayI_any (ao : Option Addr) (n cap : Nat) (xs : List Int) (w : World) (hs : SrcI w ao n cap xs) :
    Calls Tryz.prog 183 #[.slice ao n cap] w fun e w' => e = .returned (.bool (mayS xs)) ∧ Drawn w w' := by
  have HL := hide hs.hlen
  by_cases h2 : n < 2
  · have HV := hide (show mayS xs = false by unfold mayS; rw [HL.out, decide_eq_false (by omega)]; rfl)
    go_enter Tryz.func183, Tryz.ntmps183
    go_wp2
    go_ret
    exact ⟨by rw [HV.out]; rfl, Drawn.refl _⟩
  by_cases h20 : 20 < n
  · have HV := hide (show mayS xs = false by unfold mayS; rw [HL.out, decide_eq_false (show ¬ n ≤ 20 by omega)]; simp)
    obtain ⟨m1, _⟩ := hs.lenI
    have hI : (20 : Int) < (n : Int) := by omega
    go_enter Tryz.func183, Tryz.ntmps183
    go_wp2
    go_ret
    exact ⟨by rw [HV.out]; rfl, Drawn.refl _⟩
  have hI : ¬ (20 : Int) < (n : Int) := by omega
  have hJ : ¬ (n : Int) < (2 : Int) := by omega
  go_enter Tryz.func183, Tryz.ntmps183
  go_wp2
  go_loop [4, 17] (fun _ i => ∃ k : Nat, k ≤ n ∧ i = .int .i64 k ∧ (xs.take k).all arcB = true) (fun _ i => n - (intOf i).toNat)
  case atStart => exact ⟨0, Nat.zero_le _, rfl, by simp⟩
  case round =>
    obtain ⟨k, hk1, rfl, he⟩ := hrel
    have HE := hide he
    clear he
    by_cases hx : k < n
    · obtain ⟨b, o, rfl, e1⟩ := hs.at k hx
      by_cases ha : arcB (xs.getD k 0) = true
      · have HV := hide (all_next k HE.out (by rw [HL.out]; exact hx) ha)
        generalize xs.getD k 0 = x at e1 ha
        unfold arcB at ha
        simp at ha
        obtain ⟨ha1, ha2⟩ := ha
        have hb1 : ¬ x < 0 := by omega
        have hb2 : ¬ 2147483647 < x := by omega
        go_wp2
        go_round
        case rel => exact ⟨k + 1, by omega, by go_num, HV.out⟩
        case measure => simp [intOf]; omega
      · have HV := hide (mayS_not (all_not k (by rw [HL.out]; exact hx) (by simpa using ha)))
        generalize xs.getD k 0 = x at e1 ha
        unfold arcB at ha
        simp at ha
        by_cases hb1 : x < 0
        · clear ha
          go_wp2
          go_ret
          exact ⟨by rw [HV.out]; rfl, Drawn.refl _⟩
        · have hb2 : 2147483647 < x := by have := ha (by omega); omega
          clear ha
          go_wp2
          go_ret
          exact ⟨by rw [HV.out]; rfl, Drawn.refl _⟩
    · obtain ⟨b, o, rfl, e1⟩ := hs.at 0 (by omega)
      obtain ⟨b', o', hbo, e2⟩ := hs.at 1 (by omega)
      simp at hbo
      obtain ⟨rfl, rfl⟩ := hbo
      rw [Nat.add_zero] at e1
      have HV := hide (show mayS xs = pairB (xs.getD 0 0) (xs.getD 1 0) by
        unfold mayS
        have h1 := HE.out
        rw [List.take_of_length_le (by rw [HL.out]; omega)] at h1
        rw [h1, HL.out, decide_eq_true (by omega), decide_eq_true (show n ≤ 20 by omega)]
        rfl)
      generalize xs.getD 0 0 = x at e1 HV
      generalize xs.getD 1 0 = y at e2 HV
      have hn2 : (1 : Int) < (n : Int) := by omega
      have hn1 : (0 : Int) < (n : Int) := by omega
      rcases (show x < 2 ∨ x = 2 ∨ 2 < x by omega) with hx2 | hx2 | hx2
      · have HW := hide (show pairB x y = decide (y ≤ 39) by unfold pairB; rw [if_pos hx2])
        go_wp2_with fail
        go_quiet (fail)
        go_wp2
        go_ret
        exact ⟨by rw [HV.out, HW.out]; rfl, by first | exact Drawn.refl _ | exact (Drawn.refl _).more _⟩
      · have HW := hide (show pairB x y = decide (y ≤ 2147483567) by unfold pairB; rw [if_neg (by omega), if_pos hx2])
        subst hx2
        go_wp2_with fail
        go_quiet (fail)
        go_wp2
        go_ret
        exact ⟨by rw [HV.out, HW.out]; rfl, by first | exact Drawn.refl _ | exact (Drawn.refl _).more _⟩
      · have HW := hide (show pairB x y = false by unfold pairB; rw [if_neg (by omega), if_neg (by omega)])
        have hb : (x == 2) = false := by simp; omega
        have hb' : ¬ x < 2 := by omega
        go_wp2_with fail
        go_quiet (fail)
        go_wp2
        go_ret
        exact ⟨by rw [HV.out, HW.out]; rfl, by first | exact Drawn.refl _ | exact (Drawn.refl _).more _⟩

theorem mayI_12 (w : World) (g : Nat) (hs : SrcI w (some ⟨g, 0, none⟩) 2 2 [1, 2]) : Calls Tryz.prog 183 #[.slice (some ⟨g, 0, none⟩) 2 2] w fun e w' => e = .returned (.bool true) ∧ Drawn w w' :=
  (mayI_any _ _ _ [1, 2] w hs).mono fun _ _ h => h

end Go.Proofs.YtklchpdpooikdaaGreatDoor

namespace Go.Proofs.YtklchpdpooikdaaGreatDoor
open Go.RowKit Go.IntWalk

set_option maxRecDepth 100000 in
set_option maxHeartbeats 1000000 in
theorem refMayI_any (ao : Option Addr) (n cap : Nat) (xs : List Int) (w : World) (hs : SrcI w ao n cap xs) :
    Calls Tryz.prog 129 #[.slice ao n cap] w fun e w' => e = .returned (.bool (mayS xs)) ∧ Drawn w w' := by
  have HL := hide hs.hlen
  by_cases h2 : n < 2
  · have HV := hide (show mayS xs = false by unfold mayS; rw [HL.out, decide_eq_false (by omega)]; rfl)
    go_enter Tryz.func129, Tryz.ntmps129
    go_wp2
    go_ret
    exact ⟨by rw [HV.out]; rfl, Drawn.refl _⟩
  by_cases h20 : 20 < n
  · have HV := hide (show mayS xs = false by unfold mayS; rw [HL.out, decide_eq_false (show ¬ n ≤ 20 by omega)]; simp)
    obtain ⟨m1, _⟩ := hs.lenI
    have hI : (20 : Int) < (n : Int) := by omega
    go_enter Tryz.func129, Tryz.ntmps129
    go_wp2
    go_ret
    exact ⟨by rw [HV.out]; rfl, Drawn.refl _⟩
  have hI : ¬ (20 : Int) < (n : Int) := by omega
  have hJ : ¬ (n : Int) < (2 : Int) := by omega
  go_enter Tryz.func129, Tryz.ntmps129
  go_wp2
  go_loopw [3] (fun i wr => ∃ k : Nat, k ≤ n ∧ i = .int .i64 k ∧ (xs.take k).all arcB = true ∧ Drawn w wr) (fun i _ => n - (intOf i).toNat)
  case atStart => exact ⟨0, Nat.zero_le _, rfl, by simp, Drawn.refl _⟩
  case round =>
    obtain ⟨k, hk1, rfl, he, hD⟩ := hrel
    have HE := hide he
    clear he
    have hs := hD.src hs
    by_cases hx : k < n
    · obtain ⟨b, o, rfl, e1⟩ := hs.at k hx
      by_cases ha : arcB (xs.getD k 0) = true
      · have HV := hide (all_next k HE.out (by rw [HL.out]; exact hx) ha)
        generalize xs.getD k 0 = x at e1 ha
        unfold arcB at ha
        simp at ha
        obtain ⟨ha1, ha2⟩ := ha
        have hb1 : decide (x < 0) = false := decide_eq_false (by omega)
        have hb2 : ¬ 2147483647 < x := by omega
        go_wp2_with fail
        try go_quiet (fail)
        go_wp2
        go_roundw
        case rel => exact ⟨k + 1, by omega, by go_num, HV.out, by first | exact hD | exact hD.more _⟩
        case measure => simp [intOf]; omega
      · have HV := hide (mayS_not (all_not k (by rw [HL.out]; exact hx) (by simpa using ha)))
        generalize xs.getD k 0 = x at e1 ha
        unfold arcB at ha
        simp at ha
        by_cases hb1 : x < 0
        · clear ha
          have hb1' : decide (x < 0) = true := decide_eq_true hb1
          go_wp2_with fail
          try go_quiet (fail)
          go_wp2
          go_ret
          exact ⟨by rw [HV.out]; rfl, by first | exact hD | exact hD.more _⟩
        · have hb2 : 2147483647 < x := by have := ha (by omega); omega
          have hb1' : decide (x < 0) = false := decide_eq_false hb1
          clear ha
          go_wp2_with fail
          try go_quiet (fail)
          go_wp2
          go_ret
          exact ⟨by rw [HV.out]; rfl, by first | exact hD | exact hD.more _⟩
    · obtain ⟨b, o, rfl, e1⟩ := hs.at 0 (by omega)
      obtain ⟨b', o', hbo, e2⟩ := hs.at 1 (by omega)
      simp at hbo
      obtain ⟨rfl, rfl⟩ := hbo
      rw [Nat.add_zero] at e1
      have HV := hide (show mayS xs = pairB (xs.getD 0 0) (xs.getD 1 0) by
        unfold mayS
        have h1 := HE.out
        rw [List.take_of_length_le (by rw [HL.out]; omega)] at h1
        rw [h1, HL.out, decide_eq_true (by omega), decide_eq_true (show n ≤ 20 by omega)]
        rfl)
      generalize xs.getD 0 0 = x at e1 HV
      generalize xs.getD 1 0 = y at e2 HV
      have hn2 : (1 : Int) < (n : Int) := by omega
      have hn1 : (0 : Int) < (n : Int) := by omega
      rcases (show x < 2 ∨ x = 2 ∨ 2 < x by omega) with hx2 | hx2 | hx2
      · have HW := hide (show pairB x y = decide (y ≤ 39) by unfold pairB; rw [if_pos hx2])
        have hx3 : ¬ 2 < x := by omega
        go_wp2
        go_ret
        exact ⟨by rw [HV.out, HW.out]; rfl, hD⟩
      · have HW := hide (show pairB x y = decide (y ≤ 2147483567) by unfold pairB; rw [if_neg (by omega), if_pos hx2])
        subst hx2
        go_wp2
        go_ret
        exact ⟨by rw [HV.out, HW.out]; rfl, hD⟩
      · have HW := hide (show pairB x y = false by unfold pairB; rw [if_neg (by omega), if_neg (by omega)])
        go_wp2
        go_ret
        exact ⟨by rw [HV.out, HW.out]; rfl, hD⟩

end Go.Proofs.YtklchpdpooikdaaGreatDoor
