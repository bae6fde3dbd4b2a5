/-
  der.Put lays an element's bytes behind any bytes, in new memory, or answers the error that the document asks.
-/
import Derived.Test.YtaeddbkkkiefcaaPLen
import Derived.Test.YtaeddbkkkiefcaaFind
namespace Go.Proofs.Ytaeddbkkkiefcaa
open Go.RowKit Go.IntWalk

/-- A slice of slices of bytes: its cells hold the slices vs, and these hold the bytes ls. -/
structure Parts (w : World) (ao : Option Addr) (n cap : Nat) (vs : List Value) (ls : List (List Int)) : Prop where
  hlv : vs.length = n
  hll : ls.length = n
  hcap : n ≤ cap
  hmax : cap ≤ maxLen
  hrd : 0 < n → ∃ b off, ao = some ⟨b, off, none⟩ ∧ ∀ i, i < n → w.cell? ⟨b, off + i, none⟩ = some (vs.getD i (.slice none 0 0))
  heach : ∀ i, i < n → ∃ a m c, vs.getD i (.slice none 0 0) = .slice a m c ∧ Src w a m c (ls.getD i [])

theorem Parts.below {w w' : World} {ao : Option Addr} {n cap : Nat} {vs : List Value} {ls : List (List Int)} (h : Parts w ao n cap vs ls) (hb : Below w.heap.size w w') : Parts w' ao n cap vs ls := by
  refine ⟨h.hlv, h.hll, h.hcap, h.hmax, ?_, ?_⟩
  · intro hn
    obtain ⟨b, off, he, hc⟩ := h.hrd hn
    exact ⟨b, off, he, fun i hi => (hb.cell (p := ⟨b, off + i, none⟩) (lt_of_cell (hc i hi))).trans (hc i hi)⟩
  · intro i hi
    obtain ⟨a, m, c, he, hs⟩ := h.heach i hi
    exact ⟨a, m, c, he, hs.below hb⟩

/-- What Put answers: the bytes, and the error's number. -/
def putS (b : List Int) (tag : Int) (ls : List (List Int)) : List Int × Int :=
  if isTagB tag = false then ([], 2)
  else if 16777215 < ls.flatten.length then ([], 3)
  else (b ++ [tag] ++ lenB ls.flatten.length ++ ls.flatten, 0)

theorem flat_succ (ls : List (List Int)) (i : Nat) (h : i < ls.length) : (ls.take (i + 1)).flatten = (ls.take i).flatten ++ ls.getD i [] := by
  rw [List.take_succ_eq_append_getElem h, List.flatten_append]
  simp [List.getD, List.getElem?_eq_getElem h]

theorem flat_le (ls : List (List Int)) (i : Nat) : (ls.take i).flatten.length ≤ ls.flatten.length := by
  have : ls.flatten = (ls.take i).flatten ++ (ls.drop i).flatten := by rw [← List.flatten_append, List.take_append_drop]
  rw [this, List.length_append]
  omega

theorem tag_bd {t : Int} (h : isTagB t = true) : 0 ≤ t ∧ t ≤ 255 := by
  simp [isTagB] at h
  omega

set_option maxRecDepth 100000 in
set_option maxHeartbeats 4000000 in
theorem put_any (ab : Option Addr) (nb cb : Nat) (bs : List Int) (tag : Int) (ao : Option Addr) (n cap : Nat) (vs : List Value) (ls : List (List Int)) (w : World)
    (hb : Src w ab nb cb bs) (hp : Parts w ao n cap vs ls) (hN : (nb : Int) ≤ 140737471578000) (hn : (n : Int) ≤ 140737488355328) :
    Calls Try.prog 70 #[.slice ab nb cb, .int .i64 tag, .slice ao n cap] w fun e w' => ∃ a' m' c',
      e = .returned (.tuple #[.slice a' m' c', .int .i64 (putS bs tag ls).2]) ∧ OwnB w' w.heap.size (.slice a' m' c') (putS bs tag ls).1 ∧ Below w.heap.size w w' := by
  have hlb := hide hb.hlen
  have hnc := hp.hcap
  obtain ⟨i0, hi, hz0, hz1, hz2⟩ := info_parts Try.infoB
  cases hT : isTagB tag with
  | false =>
    have E := hide (show putS bs tag ls = ([], 2) by unfold putS; rw [if_pos hT])
    have HT := hide hT
    clear hT
    go_enter Try.func70, Try.ntmps70
    go_wp2_with (go_at_call 83; refine (isTag_any tag _).mono ?_; rintro e w' ⟨rfl, hw⟩; have hw1 := hw.symm; subst hw1; rw [HT.out])
    go_ret2
    rw [E.out]
    exact ⟨none, 0, 0, rfl, OwnB.nil _ _, Below.refl _ _⟩
  | true =>
    obtain ⟨t0, t1⟩ := tag_bd hT
    have HT := hide hT
    have hll := hide hp.hll
    have ePut := hide (show putS bs tag ls = if 16777215 < ls.flatten.length then ([], 3) else (bs ++ [tag] ++ lenB ls.flatten.length ++ ls.flatten, 0) by unfold putS; rw [if_neg (by rw [hT]; simp)])
    clear hT
    go_enter Try.func70, Try.ntmps70
    go_wp2_with (go_at_call 83; refine (isTag_any tag _).mono ?_; rintro e w' ⟨rfl, hw⟩; have hw1 := hw.symm; subst hw1; rw [HT.out])
    go_loop [8, 19] (fun s j => ∃ (i N : Nat), i ≤ n ∧ j = .int .i64 i ∧ s = .int .i64 N ∧ (N : Int) ≤ 16777215 ∧ Hid ((ls.take i).flatten.length = N)) (fun _ j => n - (intOf j).toNat)
    case atStart => exact ⟨0, 0, Nat.zero_le _, rfl, rfl, by omega, by simp [Hid]⟩
    case round =>
      obtain ⟨i, N, hin, rfl, rfl, hN1, hflat⟩ := hrel
      by_cases hlt : i < n
      · obtain ⟨b, off, rfl, hc⟩ := hp.hrd (by omega)
        obtain ⟨a, m, c, hv, hs⟩ := hp.heach i hlt
        have hci := hc i hlt
        rw [hv] at hci
        have hsm := hide hs.hlen
        have hmx := hs.hcap
        have hmy := hs.hmax
        unfold maxLen at hmy
        have hfs := hide (flat_succ ls i (by rw [hll.out]; exact hlt))
        have hfl := hide (flat_le ls (i + 1))
        clear hc hv
        by_cases hbig : 16777215 - (N : Int) < (m : Int)
        · have E : Hid (putS bs tag ls = ([], 3)) := by
            unfold Hid
            rw [ePut.out, if_pos]
            have h1 := hfl.out
            rw [hfs.out, List.length_append, hflat.out, hsm.out] at h1
            omega
          go_wp2
          go_ret2
          rw [E.out]
          exact ⟨none, 0, 0, rfl, OwnB.nil _ _, Below.refl _ _⟩
        · go_wp2
          go_round
          case rel => exact ⟨i + 1, N + m, by omega, by go_num, by go_num, by omega, by unfold Hid; rw [hfs.out, List.length_append, hflat.out, hsm.out]⟩
          case measure => simp [intOf]; omega
      · obtain rfl : i = n := by omega
        have hfN : ls.flatten.length = N := by
          have := hflat.out
          rwa [List.take_of_length_le (by rw [hll.out]; exact Nat.le_refl _)] at this
        have E : Hid (putS bs tag ls = (bs ++ [tag] ++ lenB N ++ ls.flatten, 0)) := by
          unfold Hid
          rw [ePut.out, hfN, if_neg (by omega)]
        have HFN := hide hfN
        have hsz := sizeN_eq N (by omega)
        have hl5 : (lenB N).length ≤ 4 := by
          unfold lenB; split
          · simp
          · have := digs_len N; simp; omega
        obtain ⟨S, hS⟩ : ∃ S : Nat, sizeN N = (S : Int) := ⟨1 + (lenB N).length, by rw [hsz]; simp⟩
        have hS5 : (S : Int) ≤ 5 := by omega
        clear hfN hsz
        go_wp2_with (first | (go_at_call 84; refine (size_any N _).mono ?_; rintro e w0 ⟨rfl, hw0⟩; have hw1 := hw0.symm; subst hw1; rw [hS]) | (at_make; refine wpList_make_own _ rfl _ _ 27 rfl w.heap.size 5 i0 (.int .u8 0) 1 Try.underlying27 hi hz0 hz1 .i64 .i64 _ (nb + S + N) rfl rfl (by omega) (by rw [hz2]; omega) (by unfold maxLen; omega) (Nat.le_refl _) ?_; intro wm hom hgm; have bm : Below w.heap.size w wm := ((Below.refl _ _).grown hgm (Nat.le_refl _) (by simp)); have hom' : OwnB wm w.heap.size (.slice (some ⟨w.heap.size, 0, none⟩) 0 (nb + S + N)) [] := hom) | (at_builtin; refine wpList_appN _ rfl (.tmp 41) (.tmp 42) rfl w.heap.size (.slice (some ⟨w.heap.size, 0, none⟩) 0 (nb + S + N)) [] rfl hom' ab nb cb bs rfl (hb.below bm) nb (by simpa using hlb.out) (.inl (by simp)) (by omega) bm.size ?_; intro g1 c1 w1 ho1 hb1 hl1 hc1 hm1 hg1; have bw1 : Below w.heap.size w w1 := (bm.grown hg1 bm.size (by intro k hk; cases hk; exact Nat.le_refl _))) | (at_builtin; refine wpList_appN _ rfl (.tmp 44) (.tmp 47) rfl w.heap.size (.slice (some ⟨g1, 0, none⟩) nb c1) bs rfl (ho1.alloc _) (some ⟨w1.heap.size, 0, none⟩) 1 1 [tag] rfl (Src.lit [tag] _ 1 rfl rfl (by simp; omega) (by decide)) (nb + 1) (by simpa using hlb.out) (.inl (by simp)) (by omega) (by have := bw1.size; simp; omega) ?_; intro g2 c2 w2 ho2 hb2 hl2 hc2 hm2 hg2; have bw2 : Below w.heap.size w w2 := ((bw1.alloc bw1.size _).grown hg2 (by have := bw1.size; simp; omega) (by intro k hk; cases hk; exact hb1))) | (go_at_call 85; refine (putLen_any w.heap.size g2 (nb + 1) c2 (bs ++ [tag]) N _ ho2 hN1 (by omega) bw2.size hb2).mono ?_; rintro e w3 ⟨g3, c3, rfl, ho3, hb3, bel3⟩; have bw3 : Below w.heap.size w w3 := bw2.trans bel3))
        go_loopw [11, 54] (fun v j wr => ∃ (k : Nat) (g' c' M : Nat), k ≤ i ∧ j = .int .i64 k ∧ v = .slice (some ⟨g', 0, none⟩) M c' ∧ Hid (M = nb + 1 + (lenB N).length + (ls.take k).flatten.length) ∧ OwnB wr w.heap.size (.slice (some ⟨g', 0, none⟩) M c') (bs ++ [tag] ++ lenB N ++ (ls.take k).flatten) ∧ w.heap.size ≤ g' ∧ Below w.heap.size w wr) (fun _ j _ => i - (intOf j).toNat)
        case atStart => exact ⟨0, g3, c3, _, Nat.zero_le _, rfl, rfl, by simp [Hid], by simpa using ho3, hb3, bw3⟩
        case round =>
          obtain ⟨k, g', c', M, hk, rfl, rfl, hM, hoy, hgb', hbel⟩ := hrel
          by_cases hlt2 : k < i
          · obtain ⟨b, off, rfl, hc⟩ := hp.hrd (by omega)
            obtain ⟨a, m, c, hv, hs⟩ := hp.heach k hlt2
            have hci := hc k hlt2
            rw [hv] at hci
            have hci := (hbel.cell (p := ⟨b, off + k, none⟩) (lt_of_cell hci)).trans hci
            have hsm := hide hs.hlen
            have hfs := hide (flat_succ ls k (by rw [hll.out]; exact hlt2))
            have hfl := hide (flat_le ls (k + 1))
            have hbound : M + m ≤ 140737488355328 := by
              have h1 := hfl.out
              rw [hfs.out, List.length_append, hsm.out, HFN.out] at h1
              rw [hM.out]
              omega
            clear hc hv ho1 ho2 ho3 hg1 hg2 hom hom' hgm
            go_wp2_with (at_builtin; refine wpList_appN _ rfl (.tmp 58) (.tmp 59) rfl w.heap.size (.slice (some ⟨g', 0, none⟩) M c') _ rfl hoy a m c (ls.getD k []) rfl (hs.below hbel) (M + m) (by rw [List.length_append, hsm.out, ← hoy.eqlen]) (.inl (by simp)) (by omega) hbel.size ?_; intro g1 c1 w4 ho4 hb4 hl4 hc4 hm4 hg4)
            go_roundw
            case rel => exact ⟨k + 1, g1, c1, M + m, by omega, by go_num, rfl, by unfold Hid; rw [hfs.out, List.length_append, hsm.out, hM.out]; omega, by rw [hfs.out, ← List.append_assoc]; exact ho4, hb4, hbel.grown hg4 hbel.size (by intro k hk; cases hk; exact hgb')⟩
            case measure => simp [intOf]; omega
          · obtain rfl : k = i := by omega
            go_wp2
            go_ret2
            rw [E.out]
            have eT : ls.take k = ls := List.take_of_length_le (by rw [hll.out]; exact Nat.le_refl _)
            rw [eT] at hoy
            exact ⟨_, _, _, rfl, hoy, hbel⟩

end Go.Proofs.Ytaeddbkkkiefcaa
