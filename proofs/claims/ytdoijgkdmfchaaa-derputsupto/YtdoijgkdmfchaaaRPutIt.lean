/-
  The reference's Put answers as the plain function says, in new memory.
-/
import Derived.Test.YtdoijgkdmfchaaaRPut
import Derived.Deep.RegionLaw
namespace Go.Proofs.Ytdoijgkdmfchaaa
open Go.RowKit Go.IntWalk

theorem below_src {w w1 : World} {a : Option Addr} {m c : Nat} {xs : List Int} (h : Src w a m c xs) (hg : w.grownBy w1 (some w.heap.size)) : Src w1 a m c xs :=
  h.grown hg fun b off he hx => by have := h.blk b off he hx; simp; omega

theorem bytes3 {tag : Int} {l xs : List Int} (h0 : 0 ≤ tag) (h1 : tag ≤ 255) (hl : ∀ x ∈ l, 0 ≤ x ∧ x < 256) (hx : ∀ x ∈ xs, 0 ≤ x ∧ x < 256) : ∀ x ∈ [tag] ++ l ++ xs, 0 ≤ x ∧ x < 256 := by
  intro x h
  simp at h
  rcases h with rfl | h | h
  · omega
  · exact hl x h
  · exact hx x h

set_option maxRecDepth 100000 in
set_option maxHeartbeats 4000000 in
theorem refPut_any (ab : Option Addr) (nb cb : Nat) (bs : List Int) (tag : Int) (ao : Option Addr) (n cap : Nat) (vs : List Value) (ls : List (List Int)) (w : World)
    (hb : Src w ab nb cb bs) (hp : Parts w ao n cap vs ls) (hN : (nb : Int) ≤ 140737471578000) (hn : (n : Int) ≤ 140737488355328) :
    Calls Try.prog 11 #[.slice ab nb cb, .int .i64 tag, .slice ao n cap] w fun e w' => ∃ a' m' c',
      e = .returned (.tuple #[.slice a' m' c', .int .i64 (putS bs tag ls).2]) ∧ OwnB w' w.heap.size (.slice a' m' c') (putS bs tag ls).1 ∧ Below w.heap.size w w' := by
  have hlb := hide hb.hlen
  have hnc := hp.hcap
  cases hT : isTagB tag with
  | false =>
    have E := hide (show putS bs tag ls = ([], 2) by unfold putS; rw [if_pos hT])
    have HT := hide hT
    clear hT
    go_enter Try.func11, Try.ntmps11
    go_wp2_with (go_at_call 31; refine (refIsTag_any tag _).mono ?_; rintro e w' ⟨rfl, hw⟩; have hw1 := hw.symm; subst hw1; rw [HT.out])
    go_ret2
    rw [E.out]
    exact ⟨none, 0, 0, rfl, OwnB.nil _ _, Below.refl _ _⟩
  | true =>
    obtain ⟨t0, t1⟩ := tag_bd hT
    have HT := hide hT
    have hll := hide hp.hll
    have ePut := hide (show putS bs tag ls = if 16777215 < ls.flatten.length then ([], 3) else (bs ++ [tag] ++ lenB ls.flatten.length ++ ls.flatten, 0) by unfold putS; rw [if_neg (by rw [hT]; simp)])
    clear hT
    go_enter Try.func11, Try.ntmps11
    go_wp2_with (go_at_call 31; refine (refIsTag_any tag _).mono ?_; rintro e w' ⟨rfl, hw⟩; have hw1 := hw.symm; subst hw1; rw [HT.out])
    go_loopw [9] (fun j wr => ∃ (i : Nat) (a : Option Addr) (m c : Nat), i ≤ n ∧ j = .int .i64 i ∧ (m : Int) ≤ 16777215 ∧ wr.cell? ⟨w.heap.size, 0, none⟩ = some (.int .i64 tag) ∧ wr.cell? ⟨w.heap.size, 1, none⟩ = some (.slice a m c) ∧
        wr.frozen? ⟨w.heap.size, 1, none⟩ = false ∧ OwnB wr (w.heap.size + 1) (.slice a m c) ((ls.take i).flatten) ∧ Hid ((ls.take i).flatten.length = m) ∧ Below w.heap.size w wr ∧ w.heap.size < wr.heap.size) (fun j _ => n - (intOf j).toNat)
    case atStart => exact ⟨0, none, 0, 0, Nat.zero_le _, rfl, by omega, by simp, by simp, by simp, by simpa using OwnB.nil _ _, by simp [Hid], (Below.refl _ _).alloc (Nat.le_refl _) _, by simp⟩
    case round =>
      obtain ⟨i, a, m, c, hin, rfl, hm, hc0, hc1, hfz, hown, hflat, hbel, hsz⟩ := hrel
      by_cases hlt : i < n
      · obtain ⟨b, off, rfl, hc⟩ := hp.hrd (by omega)
        obtain ⟨ai, mi, ci, hv, hs⟩ := hp.heach i hlt
        have hci := hc i hlt
        rw [hv] at hci
        have hbl : b < w.heap.size := lt_of_cell hci
        have hci := (hbel.cell (p := ⟨b, off + i, none⟩) hbl).trans hci
        have hsm := hide hs.hlen
        have hmx := hs.hcap
        have hmy := hs.hmax
        unfold maxLen at hmy
        have hfs := hide (flat_succ ls i (by rw [hll.out]; exact hlt))
        have hfl := hide (flat_le ls (i + 1))
        have i1 : (0 : Int) ≤ (i : Int) := by omega
        have i2 : (i : Int) < (n : Int) := by omega
        have hws : IntKind.i64.wrap (16777215 - (m : Int)) = 16777215 - (m : Int) := i64_in _ (by omega)
        have hbe : ¬ b = w.heap.size := by omega
        have hbe' : ¬ w.heap.size = b := by omega
        clear hc hv
        by_cases hbig : 16777215 - (m : Int) < (mi : Int)
        · have E : Hid (putS bs tag ls = ([], 3)) := by
            unfold Hid
            rw [ePut.out, if_pos]
            have h1 := hfl.out
            rw [hfs.out, List.length_append, hflat.out, hsm.out] at h1
            omega
          go_wp2
          go_quiet (fail)
          go_wp2
          go_ret2
          rw [E.out]
          exact ⟨none, 0, 0, rfl, OwnB.nil _ _, ⟨hbel.os, hbel.tape, hbel.output, hbel.size, hbel.block⟩⟩
        · go_wp2
          go_quiet (fail)
          go_wp2
          go_region_law (first | (refine step_appS _ rfl (.tmp 32) (.tmp 36) rfl (w.heap.size + 1) (.slice a m c) ((ls.take i).flatten) ?_ ?_ ai mi ci (ls.getD i []) ?_ ?_ (m + mi) ?_ ?_ ?_ ?_; exact rfl; exact hown.heap rfl; exact rfl; exact (hs.below hbel).heap rfl; (rw [List.length_append, hflat.out, hsm.out]); omega; exact hsz; intro ad1 c1 w1 ho1 hg1; have u0 : w1.cell? ⟨w.heap.size, 0, none⟩ = some (.int .i64 tag) := hg1.cell hc0 (hown.ne_row (b := w.heap.size) (.inl (Nat.lt_succ_self _))); have u1 : w1.cell? ⟨w.heap.size, 1, none⟩ = some (.slice a m c) := hg1.cell hc1 (hown.ne_row (b := w.heap.size) (.inl (Nat.lt_succ_self _))); have u2 : w1.frozen? ⟨w.heap.size, 1, none⟩ = false := (World.frozen?_of_block (hg1.block w.heap.size hsz (hown.ne_row (b := w.heap.size) (.inl (Nat.lt_succ_self _))))).trans hfz; have u3 : w1.cell? ⟨b, off + i, none⟩ = some (.slice ai mi ci) := hg1.cell hci (hown.ne_row (b := b) (.inl (by omega)))))
          all_goals
            go_wp2
            go_roundw
            case rel =>
              have hb2 : Below w.heap.size w w1 := Below.grown (w := (wr.drewN _).drew) ⟨hbel.os, hbel.tape, hbel.output, hbel.size, hbel.block⟩ hg1 hbel.size (fun k hk => by have := (hown.lt k hk).1; omega)
              have hz1 : w.heap.size < w1.heap.size := Nat.lt_of_lt_of_le hsz hg1.size
              refine ⟨i + 1, ad1, m + mi, c1, by omega, by go_num, by omega, (World.cell?_setCell_other _ _ _ _ (by simp)).trans u0, World.cell?_setCell_same _ _ _ u1, by simp [u2], ?_, by unfold Hid; rw [hfs.out, List.length_append, hflat.out, hsm.out], hb2.setCell (Nat.le_refl _) _, by simpa using hz1⟩
              rw [hfs.out]
              exact ho1.setBelow (Nat.lt_succ_self _) _
            case measure => simp [intOf]; omega
      · obtain rfl : i = n := by omega
        have hfN : ls.flatten.length = m := by
          have := hflat.out
          rwa [List.take_of_length_le (by rw [hll.out]; exact Nat.le_refl _)] at this
        have eT : ls.take i = ls := List.take_of_length_le (by rw [hll.out]; exact Nat.le_refl _)
        have E : Hid (putS bs tag ls = (bs ++ [tag] ++ lenB m ++ ls.flatten, 0)) := by
          unfold Hid
          rw [ePut.out, hfN, if_neg (by omega)]
        rw [eT] at hown
        have hby : Hid (∀ x ∈ ls.flatten, 0 ≤ x ∧ x < 256) := by
          intro x hx
          obtain ⟨l, hl, hx⟩ := List.mem_flatten.1 hx
          obtain ⟨k, hk, rfl⟩ := List.mem_iff_getElem.1 hl
          obtain ⟨_, _, _, _, hs⟩ := hp.heach k (by rw [← hll.out]; exact hk)
          exact hs.hbyt x (by simpa [List.getD, List.getElem?_eq_getElem hk] using hx)
        have hl5 : (lenB m).length ≤ 4 := by
          unfold lenB; split
          · simp
          · have := digs_len m; simp; omega
        have hsC := hown.toSrc hby.out
        have hlb2 := hide (lenB_byte m (by omega))
        clear hfN eT
        go_wp2
        go_region_held3 (fun W => W.cell? ⟨w.heap.size, 0, none⟩ = some (.int .i64 tag) ∧ W.cell? ⟨w.heap.size, 1, none⟩ = some (.slice a m c)) (go_keep) (first | (refine step_appN _ rfl (.tmp 39) (.tmp 40) rfl (w.heap.size + 1) (.slice (some ⟨wr.heap.size, 0, none⟩) 0 0) [] ?_ ?_ ab nb cb bs ?_ ?_ nb ?_ ?_ ?_ ?_ ?_; exact rfl; exact OwnB.litAt (w := wr) (w.heap.size + 1) _ [] _ 0 rfl rfl rfl hsz (by decide); exact rfl; exact ((hb.below hbel).alloc _).heap rfl; (simpa using hlb.out); (exact .inl (by simp)); omega; (focus (simp; try omega)); intro g1 c1 w1 ho1 hb1 hl1 hc1' hm1 hg1; have z1 : wr.heap.size + 1 ≤ w1.heap.size := (by have := hg1.size; simpa using this); have q1 : wr.grownBy w1 (some wr.heap.size) := ⟨hg1.os, hg1.tape, hg1.output, Nat.le_of_succ_le z1, fun k hk hr => (hg1.block k (by simp; omega) hr).trans (Below.heap_alloc wr _ k hk)⟩; have u0 : w1.cell? ⟨w.heap.size, 0, none⟩ = some (.int .i64 tag) := q1.cell hc0 (by simp; omega); have u1 : w1.cell? ⟨w.heap.size, 1, none⟩ = some (.slice a m c) := q1.cell hc1 (by simp; omega)) | (go_at_call 32; refine (bytes_any tag a m c ls.flatten _ (below_src hsC q1) t0 t1 hm).mono ?_; rintro e w2 ⟨g2, c2, rfl, ho2, bel2⟩; have v0 : w2.cell? ⟨w.heap.size, 0, none⟩ = some (.int .i64 tag) := (bel2.cell (p := ⟨w.heap.size, 0, none⟩) (by show w.heap.size < w1.heap.size; omega)).trans u0; have v1 : w2.cell? ⟨w.heap.size, 1, none⟩ = some (.slice a m c) := (bel2.cell (p := ⟨w.heap.size, 1, none⟩) (by show w.heap.size < w1.heap.size; omega)).trans u1) | (refine step_appN _ rfl (.tmp 41) (.tmp 43) rfl (w.heap.size + 1) (.slice (some ⟨g1, 0, none⟩) nb c1) bs ?_ ?_ (some ⟨g2, 0, none⟩) (1 + (lenB m).length + m) c2 ([tag] ++ lenB m ++ ls.flatten) ?_ ?_ (nb + (1 + (lenB m).length + m)) ?_ ?_ ?_ ?_ ?_; exact rfl; exact (ho1.belowA bel2).heap rfl; exact rfl; exact (ho2.toSrc (bytes3 t0 t1 hlb2.out hby.out)).heap rfl; (rw [List.length_append, hlb.out, ← ho2.eqlen]); (exact .inl (by simp)); omega; (focus (have := bel2.size; simp; try omega)); intro g3 c3 w3 ho3 hb3 hl3 hc3 hm3 hg3; have x0 : w3.cell? ⟨w.heap.size, 0, none⟩ = some (.int .i64 tag) := hg3.cell v0 (by simp [Value.ownBlock]; omega); have x1 : w3.cell? ⟨w.heap.size, 1, none⟩ = some (.slice a m c) := hg3.cell v1 (by simp [Value.ownBlock]; omega)))
        go_wp2
        go_ret2
        rw [E.out]
        refine ⟨_, _, _, rfl, ?_, ?_⟩
        · have h3 := ho3.rebase (base' := w.heap.size) (by omega)
          simpa [List.append_assoc] using h3
        · have f1 : Below w.heap.size w w1 := hbel.grown q1 hbel.size (by intro k hk; cases hk; exact hbel.size)
          have f2 : Below w.heap.size w w2 := f1.trans (bel2.mono f1.size)
          exact f2.grown hg3 f2.size (by intro k hk; cases hk; exact Nat.le_of_succ_le hb1)

end Go.Proofs.Ytdoijgkdmfchaaa
