/-
  text.Fold and text.Same as calls; the statements' own call works answers true.
  der.Size answers the plain function's number at every int.
  der.putLength lays the bytes of a length behind a row of the call's own.
  der.Put lays an element's bytes behind any bytes, in new memory, or answers the error that the document asks.
-/
import Derived.Test.YtklchpdpooikdaaGreatDoorXTxF2
import Derived.Test.YtklchpdpooikdaaGreatDoorXTxP3ToTxP4
import Derived.Test.YtklchpdpooikdaaGreatDoorXBaseToBts
import Derived.Test.YtklchpdpooikdaaGreatDoorXCloneToFindIt
import Derived.WalkSpells
namespace Go.Proofs.YtklchpdpooikdaaGreatDoor
open Go.RowKit Go.Shelf Go.IntWalk

theorem Tryz.own5 : ownKnob Tryz.prog.godebug = none := by kernel_rfl

/-- A text as it is compared. -/
def foldS (s : ByteArray) : ByteArray := ⟨(foldL s.data.toList).toArray⟩

theorem fold_any (s : ByteArray) (hs : s.size + 1 ≤ 140737488355328) (w : World) :
    Calls Tryz.prog 176 #[.string s] w fun e w' => e = .returned (.string (foldS s)) ∧ Below w.heap.size w w' := callsIn_wide.1 (fold_in s hs w)

theorem foldS_A : foldS ⟨#[65]⟩ = ⟨#[97]⟩ := by decide

theorem may_a (k : Int) (hk : k = 12 ∨ k = 19 ∨ k = 22) : mayL k [97] = true := by
  rcases hk with rfl | rfl | rfl <;> decide

end Go.Proofs.YtklchpdpooikdaaGreatDoor

namespace Go.Proofs.YtklchpdpooikdaaGreatDoor
open Go.RowKit

set_option maxRecDepth 100000 in
set_option maxHeartbeats 1000000 in
theorem size_any (n : Int) (w : World) :
    Calls Tryz.prog 185 #[.int .i64 n] w fun e w' => e = .returned (.int .i64 (sizeN n)) ∧ w' = w := by
  by_cases h0 : n < 0
  · have e1 : sizeN n = 0 := by unfold sizeN; rw [if_pos (.inl h0)]
    have E := hide e1
    clear e1
    go_enter Tryz.func185, Tryz.ntmps185
    go_wp2
    go_ret
    rw [unhide E]
    exact ⟨rfl, rfl⟩
  · by_cases h1 : 16777215 < n
    · have e1 : sizeN n = 0 := by unfold sizeN; rw [if_pos (.inr h1)]
      have E := hide e1
      clear e1
      go_enter Tryz.func185, Tryz.ntmps185
      go_wp2
      go_ret
      rw [unhide E]
      exact ⟨rfl, rfl⟩
    · by_cases h2 : n ≤ 127
      · have e1 : sizeN n = 2 := by unfold sizeN; rw [if_neg (by omega), if_pos h2]
        have E := hide e1
        clear e1
        go_enter Tryz.func185, Tryz.ntmps185
        go_wp2
        go_ret
        rw [unhide E]
        exact ⟨rfl, rfl⟩
      · by_cases h3 : n < 256
        · have e1 : sizeN n = 3 := by unfold sizeN; rw [if_neg (by omega), if_neg h2, if_pos h3]
          have E := hide e1
          clear e1
          go_enter Tryz.func185, Tryz.ntmps185
          go_wp2
          go_ret
          rw [unhide E]
          exact ⟨rfl, rfl⟩
        · by_cases h4 : n < 65536
          · have e1 : sizeN n = 4 := by unfold sizeN; rw [if_neg (by omega), if_neg h2, if_neg h3, if_pos h4]
            have E := hide e1
            clear e1
            go_enter Tryz.func185, Tryz.ntmps185
            go_wp2
            go_ret
            rw [unhide E]
            exact ⟨rfl, rfl⟩
          · have e1 : sizeN n = 5 := by unfold sizeN; rw [if_neg (by omega), if_neg h2, if_neg h3, if_neg h4]
            have E := hide e1
            clear e1
            go_enter Tryz.func185, Tryz.ntmps185
            go_wp2
            go_ret
            rw [unhide E]
            exact ⟨rfl, rfl⟩

end Go.Proofs.YtklchpdpooikdaaGreatDoor

namespace Go.Proofs.YtklchpdpooikdaaGreatDoor
open Go.RowKit Go.IntWalk

theorem digs_three (n : Nat) (h : 65536 ≤ n) : digs n = [((n / 65536 : Nat) : Int), ((n / 256 % 256 : Nat) : Int), ((n % 256 : Nat) : Int)] := by
  unfold digs; rw [if_neg (by omega), if_neg (by omega), if_neg (by omega)]
theorem digs_two (n : Nat) (h : 256 ≤ n) (h' : n < 65536) : digs n = [((n / 256 : Nat) : Int), ((n % 256 : Nat) : Int)] := by
  unfold digs; rw [if_neg (by omega), if_neg (by omega), if_pos h']
theorem digs_one (n : Nat) (h : 0 < n) (h' : n < 256) : digs n = [(n : Int)] := by
  unfold digs; rw [if_neg (by omega), if_pos h']

theorem digs_size (n : Nat) (h : 127 < n) (h' : n < 16777216) : sizeN n = 2 + ((digs n).length : Int) := by
  have := sizeN_eq n h'
  unfold lenB at this
  rw [if_neg (by omega)] at this
  simp at this
  omega

theorem dig_at (n : Nat) (h : 127 < n) (h' : n < 16777216) (i j : Nat) (hij : i + j = (digs n).length) (hj : 1 ≤ j) :
    (digs n).take (i + 1) = (digs n).take i ++ [((n / 256 ^ (j - 1) % 256 : Nat) : Int)] := by
  by_cases h1 : n < 256
  · rw [digs_one n (by omega) h1] at *
    simp at hij
    obtain ⟨rfl, rfl⟩ : i = 0 ∧ j = 1 := by omega
    simp; omega
  · by_cases h2 : n < 65536
    · rw [digs_two n (by omega) h2] at *
      simp at hij
      rcases (show (i = 0 ∧ j = 2) ∨ (i = 1 ∧ j = 1) by omega) with ⟨rfl, rfl⟩ | ⟨rfl, rfl⟩
      · simp; omega
      · simp
    · rw [digs_three n (by omega)] at *
      simp at hij
      rcases (show (i = 0 ∧ j = 3) ∨ (i = 1 ∧ j = 2) ∨ (i = 2 ∧ j = 1) by omega) with ⟨rfl, rfl⟩ | ⟨rfl, rfl⟩ | ⟨rfl, rfl⟩
      · simp; omega
      · simp
      · simp

set_option maxRecDepth 100000 in
set_option maxHeartbeats 2000000 in
theorem putLen_any (base g m c : Nat) (ys : List Int) (n : Nat) (w : World) (ho : OwnB w base (.slice (some ⟨g, 0, none⟩) m c) ys) (hn : (n : Int) ≤ 16777215) (hm : m ≤ 140737488355320) (hb : base ≤ w.heap.size) (hgb : base ≤ g) :
    Calls Tryz.prog 186 #[.slice (some ⟨g, 0, none⟩) m c, .int .i64 n] w fun e w' => ∃ g' c', e = .returned (.slice (some ⟨g', 0, none⟩) (m + (lenB n).length) c') ∧
      OwnB w' base (.slice (some ⟨g', 0, none⟩) (m + (lenB n).length) c') (ys ++ lenB n) ∧ base ≤ g' ∧ Below base w w' := by
  have hl := hide ho.eqlen
  by_cases h1 : (n : Int) ≤ 127
  · have eL := hide (show lenB n = [(n : Int)] by unfold lenB; rw [if_pos (by omega)])
    go_enter Tryz.func186, Tryz.ntmps186
    go_wp2_with (at_builtin; refine wpList_appN _ rfl (.tmp 8) (.tmp 11) rfl base (.slice (some ⟨g, 0, none⟩) m c) ys rfl (ho.alloc _) (some ⟨w.heap.size, 0, none⟩) 1 1 [(n : Int)] rfl (Src.lit [(n : Int)] _ 1 rfl rfl (by simp; omega) (by decide)) (m + 1) (by simp [hl.out]) (.inl (by simp)) (by omega) (by simp; omega) ?_; intro g1 c1 w1 ho1 hb1 hl1 hc1 hm1 hg1)
    go_ret
    rw [eL.out]
    exact ⟨g1, c1, rfl, ho1, hb1, ((Below.refl _ _).alloc hb _).grown hg1 (by simp; omega) (by intro k hk; cases hk; exact hgb)⟩
  · have hk3 := digs_len n
    have hS := digs_size n (by omega) (by omega)
    have eL := hide (show lenB n = (128 + ((digs n).length : Int)) :: digs n by unfold lenB; rw [if_neg (by omega)])
    have hdig0 := hide (dig_at n (by omega) (by omega))
    obtain ⟨k, hk⟩ : ∃ k, (digs n).length = k := ⟨_, rfl⟩
    rw [hk] at hS hk3 eL hdig0
    have HK := hide hk
    clear hk
    go_enter Tryz.func186, Tryz.ntmps186
    go_wp2_with (first | (go_at_call 185; refine (size_any n _).mono ?_; rintro e w0 ⟨rfl, hw0⟩; have hw1 := hw0.symm; subst hw1; rw [hS]) | (at_builtin; refine wpList_appN _ rfl (.tmp 16) (.tmp 20) rfl base (.slice (some ⟨g, 0, none⟩) m c) ys rfl (ho.alloc _) (some ⟨w.heap.size, 0, none⟩) 1 1 [128 + (2 + (k : Int) - 2)] rfl (Src.lit [128 + (2 + (k : Int) - 2)] _ 1 rfl rfl (by simp; omega) (by decide)) (m + 1) (by simp [hl.out]) (.inl (by simp)) (by omega) (by simp; omega) ?_; intro ga ca wa hoa hba hla hca hma hga))
    rw [show (128 : Int) + (2 + (k : Int) - 2) = 128 + (k : Int) by omega] at hoa
    have hbela : Below base w wa := ((Below.refl _ _).alloc hb _).grown hga (by simp; omega) (by intro k hk; cases hk; exact hgb)
    go_loopw [0, 5] (fun v s wr => ∃ i j : Nat, i + j = k ∧ s = .int .i64 ((j : Int) - 1) ∧ ∃ g' c', v = .slice (some ⟨g', 0, none⟩) (m + 1 + i) c' ∧ OwnB wr base (.slice (some ⟨g', 0, none⟩) (m + 1 + i) c') (ys ++ [128 + (k : Int)] ++ (digs n).take i) ∧ base ≤ g' ∧ Below base w wr)
      (fun _ s _ => (intOf s + 1).toNat)
    case atStart => exact ⟨0, k, by omega, by go_num, ga, ca, rfl, by simpa using hoa, hba, hbela⟩
    case round =>
      obtain ⟨i, j, hij, rfl, g', c', rfl, hoy, hgb', hbel⟩ := hrel
      have hbw : base ≤ wr.heap.size := Nat.le_trans hb hbel.size
      have hdig := fun h => hide (hdig0.out i j hij h)
      clear hoa hga
      rcases (show j = 0 ∨ j = 1 ∨ j = 2 ∨ j = 3 by omega) with rfl | rfl | rfl | rfl
      · go_wp2
        go_ret
        have eT : (digs n).take i = digs n := List.take_of_length_le (by rw [HK.out]; omega)
        rw [eT] at hoy
        have eN : m + (lenB n).length = m + 1 + i := by rw [eL.out]; simp [HK.out]; omega
        rw [eN, eL.out]
        exact ⟨g', c', rfl, by simpa using hoy, hgb', hbel⟩
      · have hdig : Hid ((digs n).take (i + 1) = (digs n).take i ++ [(n : Int) % 256]) := by
          have h := (hdig (by omega)).out
          unfold Hid
          rw [h, show ((n / 256 ^ (1 - 1) % 256 : Nat) : Int) = (n : Int) % 256 by simp only [Nat.reducePow, Nat.reduceSub]; omega]
        have Hij := hide hij
        have hik : i ≤ 3 := by omega
        clear hij
        go_wp2_with (at_builtin; refine wpList_appN _ rfl (.tmp 28) (.tmp 34) rfl base (.slice (some ⟨g', 0, none⟩) (m + 1 + i) c') (ys ++ [128 + (k : Int)] ++ (digs n).take i) rfl (hoy.alloc _) (some ⟨wr.heap.size, 0, none⟩) 1 1 [(n : Int) % 256] rfl (Src.lit [(n : Int) % 256] _ 1 rfl rfl (by simp; omega) (by decide)) (m + 1 + (i + 1)) (by have := hoy.eqlen; simp only [List.length_append] at this ⊢; simp at this ⊢; omega) (.inl (by simp)) (by omega) (by simp; omega) ?_; intro g1 c1 w1 ho1 hb1 hl1 hc1 hm1 hg1)
        go_roundw
        case rel => exact ⟨i + 1, 0, by have := Hij.out; omega, by go_num, g1, c1, rfl, by rw [List.append_assoc, ← hdig.out] at ho1; exact ho1, hb1, (hbel.alloc hbw _).grown hg1 (by simp; omega) (by intro k hk; cases hk; exact hgb')⟩
        case measure => simp [intOf]
      · have hdig : Hid ((digs n).take (i + 1) = (digs n).take i ++ [(n : Int) / 256 % 256]) := by
          have h := (hdig (by omega)).out
          unfold Hid
          rw [h, show ((n / 256 ^ (2 - 1) % 256 : Nat) : Int) = (n : Int) / 256 % 256 by simp only [Nat.reducePow, Nat.reduceSub]; omega]
        have Hij := hide hij
        have hik : i ≤ 3 := by omega
        clear hij
        go_wp2_with (at_builtin; refine wpList_appN _ rfl (.tmp 28) (.tmp 34) rfl base (.slice (some ⟨g', 0, none⟩) (m + 1 + i) c') (ys ++ [128 + (k : Int)] ++ (digs n).take i) rfl (hoy.alloc _) (some ⟨wr.heap.size, 0, none⟩) 1 1 [(n : Int) / 256 % 256] rfl (Src.lit [(n : Int) / 256 % 256] _ 1 rfl rfl (by simp; omega) (by decide)) (m + 1 + (i + 1)) (by have := hoy.eqlen; simp only [List.length_append] at this ⊢; simp at this ⊢; omega) (.inl (by simp)) (by omega) (by simp; omega) ?_; intro g1 c1 w1 ho1 hb1 hl1 hc1 hm1 hg1)
        go_roundw
        case rel => exact ⟨i + 1, 1, by have := Hij.out; omega, by go_num, g1, c1, rfl, by rw [List.append_assoc, ← hdig.out] at ho1; exact ho1, hb1, (hbel.alloc hbw _).grown hg1 (by simp; omega) (by intro k hk; cases hk; exact hgb')⟩
        case measure => simp [intOf]
      · have hdig : Hid ((digs n).take (i + 1) = (digs n).take i ++ [(n : Int) / 65536]) := by
          have h := (hdig (by omega)).out
          unfold Hid
          rw [h, show ((n / 256 ^ (3 - 1) % 256 : Nat) : Int) = (n : Int) / 65536 by simp only [Nat.reducePow, Nat.reduceSub]; omega]
        have Hij := hide hij
        have hik : i ≤ 3 := by omega
        clear hij
        go_wp2_with (at_builtin; refine wpList_appN _ rfl (.tmp 28) (.tmp 34) rfl base (.slice (some ⟨g', 0, none⟩) (m + 1 + i) c') (ys ++ [128 + (k : Int)] ++ (digs n).take i) rfl (hoy.alloc _) (some ⟨wr.heap.size, 0, none⟩) 1 1 [(n : Int) / 65536] rfl (Src.lit [(n : Int) / 65536] _ 1 rfl rfl (by simp; omega) (by decide)) (m + 1 + (i + 1)) (by have := hoy.eqlen; simp only [List.length_append] at this ⊢; simp at this ⊢; omega) (.inl (by simp)) (by omega) (by simp; omega) ?_; intro g1 c1 w1 ho1 hb1 hl1 hc1 hm1 hg1)
        go_roundw
        case rel => exact ⟨i + 1, 2, by have := Hij.out; omega, by go_num, g1, c1, rfl, by rw [List.append_assoc, ← hdig.out] at ho1; exact ho1, hb1, (hbel.alloc hbw _).grown hg1 (by simp; omega) (by intro k hk; cases hk; exact hgb')⟩
        case measure => simp [intOf]

end Go.Proofs.YtklchpdpooikdaaGreatDoor

namespace Go.Proofs.YtklchpdpooikdaaGreatDoor
open Go.RowKit Go.IntWalk

/-- A slice of slices of bytes: its cells hold the slices vs, and these hold the bytes ls. -/
structure Parts (w : World) (ao : Option Addr) (n cap : Nat) (vs : List Value) (ls : List (List Int)) : Prop where
  hlv : vs.length = n
  hll : ls.length = n
  hcap : n ≤ cap
  hmax : cap ≤ maxLen
  hrd : 0 < n → ∃ b off, ao = some ⟨b, off, none⟩ ∧ ∀ i, i < n → w.cell? ⟨b, off + i, none⟩ = some (vs.getD i (.slice none 0 0))
  heach : ∀ i, i < n → ∃ a m c, vs.getD i (.slice none 0 0) = .slice a m c ∧ Src w a m c (ls.getD i [])

theorem Parts.below {w w' : World} {ao : Option Addr} {n cap : Nat} {vs : List Value} {ls : List (List Int)} (h : Parts w ao n cap vs ls) (hb : Below w.heap.size w w') : Parts w' ao n cap vs ls := by
  refine ⟨h.hlv, h.hll, h.hcap, h.hmax, ?_, ?_⟩
  · intro hn
    obtain ⟨b, off, he, hc⟩ := h.hrd hn
    exact ⟨b, off, he, fun i hi => (hb.cell (p := ⟨b, off + i, none⟩) (lt_of_cell (hc i hi))).trans (hc i hi)⟩
  · intro i hi
    obtain ⟨a, m, c, he, hs⟩ := h.heach i hi
    exact ⟨a, m, c, he, hs.below hb⟩

/-- What Put answers: the bytes, and the error's number. -/
def putS (b : List Int) (tag : Int) (ls : List (List Int)) : List Int × Int :=
  if isTagB tag = false then ([], 2)
  else if 16777215 < ls.flatten.length then ([], 3)
  else (b ++ [tag] ++ lenB ls.flatten.length ++ ls.flatten, 0)

theorem flat_succ (ls : List (List Int)) (i : Nat) (h : i < ls.length) : (ls.take (i + 1)).flatten = (ls.take i).flatten ++ ls.getD i [] := by
  rw [List.take_succ_eq_append_getElem h, List.flatten_append]
  simp [List.getD, List.getElem?_eq_getElem h]

theorem flat_le (ls : List (List Int)) (i : Nat) : (ls.take i).flatten.length ≤ ls.flatten.length := by
  have : ls.flatten = (ls.take i).flatten ++ (ls.drop i).flatten := by rw [← List.flatten_append, List.take_append_drop]
  rw [this, List.length_append]
  omega

theorem tag_bd {t : Int} (h : isTagB t = true) : 0 ≤ t ∧ t ≤ 255 := by
  simp [isTagB] at h
  omega

set_option maxRecDepth 100000 in
set_option maxHeartbeats 4000000 in
theorem put_any (ab : Option Addr) (nb cb : Nat) (bs : List Int) (tag : Int) (ao : Option Addr) (n cap : Nat) (vs : List Value) (ls : List (List Int)) (w : World)
    (hb : Src w ab nb cb bs) (hp : Parts w ao n cap vs ls) (hN : (nb : Int) ≤ 140737471578000) (hn : (n : Int) ≤ 140737488355328) :
    Calls Tryz.prog 174 #[.slice ab nb cb, .int .i64 tag, .slice ao n cap] w fun e w' => ∃ a' m' c',
      e = .returned (.tuple #[.slice a' m' c', .int .i64 (putS bs tag ls).2]) ∧ OwnB w' w.heap.size (.slice a' m' c') (putS bs tag ls).1 ∧ Below w.heap.size w w' := by
  have hlb := hide hb.hlen
  have hnc := hp.hcap
  obtain ⟨i0, hi, hz0, hz1, hz2⟩ := info_parts Tryz.infoB
  cases hT : isTagB tag with
  | false =>
    have E := hide (show putS bs tag ls = ([], 2) by unfold putS; rw [if_pos hT])
    have HT := hide hT
    clear hT
    go_enter Tryz.func174, Tryz.ntmps174
    go_wp2_with (go_at_call 165; refine (isTag_any tag _).mono ?_; rintro e w' ⟨rfl, hw⟩; have hw1 := hw.symm; subst hw1; rw [HT.out])
    go_ret2
    rw [E.out]
    exact ⟨none, 0, 0, rfl, OwnB.nil _ _, Below.refl _ _⟩
  | true =>
    obtain ⟨t0, t1⟩ := tag_bd hT
    have HT := hide hT
    have hll := hide hp.hll
    have ePut := hide (show putS bs tag ls = if 16777215 < ls.flatten.length then ([], 3) else (bs ++ [tag] ++ lenB ls.flatten.length ++ ls.flatten, 0) by unfold putS; rw [if_neg (by rw [hT]; simp)])
    clear hT
    go_enter Tryz.func174, Tryz.ntmps174
    go_wp2_with (go_at_call 165; refine (isTag_any tag _).mono ?_; rintro e w' ⟨rfl, hw⟩; have hw1 := hw.symm; subst hw1; rw [HT.out])
    go_loop [8, 19] (fun s j => ∃ (i N : Nat), i ≤ n ∧ j = .int .i64 i ∧ s = .int .i64 N ∧ (N : Int) ≤ 16777215 ∧ Hid ((ls.take i).flatten.length = N)) (fun _ j => n - (intOf j).toNat)
    case atStart => exact ⟨0, 0, Nat.zero_le _, rfl, rfl, by omega, by simp [Hid]⟩
    case round =>
      obtain ⟨i, N, hin, rfl, rfl, hN1, hflat⟩ := hrel
      by_cases hlt : i < n
      · obtain ⟨b, off, rfl, hc⟩ := hp.hrd (by omega)
        obtain ⟨a, m, c, hv, hs⟩ := hp.heach i hlt
        have hci := hc i hlt
        rw [hv] at hci
        have hsm := hide hs.hlen
        have hmx := hs.hcap
        have hmy := hs.hmax
        unfold maxLen at hmy
        have hfs := hide (flat_succ ls i (by rw [hll.out]; exact hlt))
        have hfl := hide (flat_le ls (i + 1))
        clear hc hv
        by_cases hbig : 16777215 - (N : Int) < (m : Int)
        · have E : Hid (putS bs tag ls = ([], 3)) := by
            unfold Hid
            rw [ePut.out, if_pos]
            have h1 := hfl.out
            rw [hfs.out, List.length_append, hflat.out, hsm.out] at h1
            omega
          go_wp2
          go_ret2
          rw [E.out]
          exact ⟨none, 0, 0, rfl, OwnB.nil _ _, Below.refl _ _⟩
        · go_wp2
          go_round
          case rel => exact ⟨i + 1, N + m, by omega, by go_num, by go_num, by omega, by unfold Hid; rw [hfs.out, List.length_append, hflat.out, hsm.out]⟩
          case measure => simp [intOf]; omega
      · obtain rfl : i = n := by omega
        have hfN : ls.flatten.length = N := by
          have := hflat.out
          rwa [List.take_of_length_le (by rw [hll.out]; exact Nat.le_refl _)] at this
        have E : Hid (putS bs tag ls = (bs ++ [tag] ++ lenB N ++ ls.flatten, 0)) := by
          unfold Hid
          rw [ePut.out, hfN, if_neg (by omega)]
        have HFN := hide hfN
        have hsz := sizeN_eq N (by omega)
        have hl5 : (lenB N).length ≤ 4 := by
          unfold lenB; split
          · simp
          · have := digs_len N; simp; omega
        obtain ⟨S, hS⟩ : ∃ S : Nat, sizeN N = (S : Int) := ⟨1 + (lenB N).length, by rw [hsz]; simp⟩
        have hS5 : (S : Int) ≤ 5 := by omega
        clear hfN hsz
        go_wp2_with (first | (go_at_call 185; refine (size_any N _).mono ?_; rintro e w0 ⟨rfl, hw0⟩; have hw1 := hw0.symm; subst hw1; rw [hS]) | (at_make; refine wpList_make_own _ rfl _ _ 64 rfl w.heap.size 5 i0 (.int .u8 0) 1 Tryz.underlying64 hi hz0 hz1 .i64 .i64 _ (nb + S + N) rfl rfl (by omega) (by rw [hz2]; omega) (by unfold maxLen; omega) (Nat.le_refl _) ?_; intro wm hom hgm; have bm : Below w.heap.size w wm := ((Below.refl _ _).grown hgm (Nat.le_refl _) (by simp)); have hom' : OwnB wm w.heap.size (.slice (some ⟨w.heap.size, 0, none⟩) 0 (nb + S + N)) [] := hom) | (at_builtin; refine wpList_appN _ rfl (.tmp 41) (.tmp 42) rfl w.heap.size (.slice (some ⟨w.heap.size, 0, none⟩) 0 (nb + S + N)) [] rfl hom' ab nb cb bs rfl (hb.below bm) nb (by simpa using hlb.out) (.inl (by simp)) (by omega) bm.size ?_; intro g1 c1 w1 ho1 hb1 hl1 hc1 hm1 hg1; have bw1 : Below w.heap.size w w1 := (bm.grown hg1 bm.size (by intro k hk; cases hk; exact Nat.le_refl _))) | (at_builtin; refine wpList_appN _ rfl (.tmp 44) (.tmp 47) rfl w.heap.size (.slice (some ⟨g1, 0, none⟩) nb c1) bs rfl (ho1.alloc _) (some ⟨w1.heap.size, 0, none⟩) 1 1 [tag] rfl (Src.lit [tag] _ 1 rfl rfl (by simp; omega) (by decide)) (nb + 1) (by simpa using hlb.out) (.inl (by simp)) (by omega) (by have := bw1.size; simp; omega) ?_; intro g2 c2 w2 ho2 hb2 hl2 hc2 hm2 hg2; have bw2 : Below w.heap.size w w2 := ((bw1.alloc bw1.size _).grown hg2 (by have := bw1.size; simp; omega) (by intro k hk; cases hk; exact hb1))) | (go_at_call 186; refine (putLen_any w.heap.size g2 (nb + 1) c2 (bs ++ [tag]) N _ ho2 hN1 (by omega) bw2.size hb2).mono ?_; rintro e w3 ⟨g3, c3, rfl, ho3, hb3, bel3⟩; have bw3 : Below w.heap.size w w3 := bw2.trans bel3))
        go_loopw [11, 54] (fun v j wr => ∃ (k : Nat) (g' c' M : Nat), k ≤ i ∧ j = .int .i64 k ∧ v = .slice (some ⟨g', 0, none⟩) M c' ∧ Hid (M = nb + 1 + (lenB N).length + (ls.take k).flatten.length) ∧ OwnB wr w.heap.size (.slice (some ⟨g', 0, none⟩) M c') (bs ++ [tag] ++ lenB N ++ (ls.take k).flatten) ∧ w.heap.size ≤ g' ∧ Below w.heap.size w wr) (fun _ j _ => i - (intOf j).toNat)
        case atStart => exact ⟨0, g3, c3, _, Nat.zero_le _, rfl, rfl, by simp [Hid], by simpa using ho3, hb3, bw3⟩
        case round =>
          obtain ⟨k, g', c', M, hk, rfl, rfl, hM, hoy, hgb', hbel⟩ := hrel
          by_cases hlt2 : k < i
          · obtain ⟨b, off, rfl, hc⟩ := hp.hrd (by omega)
            obtain ⟨a, m, c, hv, hs⟩ := hp.heach k hlt2
            have hci := hc k hlt2
            rw [hv] at hci
            have hci := (hbel.cell (p := ⟨b, off + k, none⟩) (lt_of_cell hci)).trans hci
            have hsm := hide hs.hlen
            have hfs := hide (flat_succ ls k (by rw [hll.out]; exact hlt2))
            have hfl := hide (flat_le ls (k + 1))
            have hbound : M + m ≤ 140737488355328 := by
              have h1 := hfl.out
              rw [hfs.out, List.length_append, hsm.out, HFN.out] at h1
              rw [hM.out]
              omega
            clear hc hv ho1 ho2 ho3 hg1 hg2 hom hom' hgm
            go_wp2_with (at_builtin; refine wpList_appN _ rfl (.tmp 58) (.tmp 59) rfl w.heap.size (.slice (some ⟨g', 0, none⟩) M c') _ rfl hoy a m c (ls.getD k []) rfl (hs.below hbel) (M + m) (by rw [List.length_append, hsm.out, ← hoy.eqlen]) (.inl (by simp)) (by omega) hbel.size ?_; intro g1 c1 w4 ho4 hb4 hl4 hc4 hm4 hg4)
            go_roundw
            case rel => exact ⟨k + 1, g1, c1, M + m, by omega, by go_num, rfl, by unfold Hid; rw [hfs.out, List.length_append, hsm.out, hM.out]; omega, by rw [hfs.out, ← List.append_assoc]; exact ho4, hb4, hbel.grown hg4 hbel.size (by intro k hk; cases hk; exact hgb')⟩
            case measure => simp [intOf]; omega
          · obtain rfl : k = i := by omega
            go_wp2
            go_ret2
            rw [E.out]
            have eT : ls.take k = ls := List.take_of_length_le (by rw [hll.out]; exact Nat.le_refl _)
            rw [eT] at hoy
            exact ⟨_, _, _, rfl, hoy, hbel⟩

end Go.Proofs.YtklchpdpooikdaaGreatDoor
