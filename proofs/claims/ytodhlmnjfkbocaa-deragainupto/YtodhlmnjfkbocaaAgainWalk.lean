/-
  DerAgain answers true at any bytes, and writes nothing that was there.
-/
import Derived.Test.YtodhlmnjfkbocaaAgainM
import Derived.Test.YtodhlmnjfkbocaaAllIt
import Derived.Test.YtodhlmnjfkbocaaSize
import Derived.Deep.RegionHeld3
namespace Go.Proofs.Ytodhlmnjfkbocaa
open Go.RowKit Go.IntWalk Go.Shelf

theorem parts_one {w : World} {a : Option Addr} {m c : Nat} {xs : List Int} (h : Src w a m c xs) : Parts (w.alloc (.cells #[.slice a m c] 22)) (some ⟨w.heap.size, 0, none⟩) 1 1 [.slice a m c] [xs] := by
  refine ⟨rfl, rfl, Nat.le_refl _, by decide, fun _ => ⟨w.heap.size, 0, rfl, fun i hi => ?_⟩, fun i hi => ?_⟩
  · obtain rfl : i = 0 := by omega
    simp
  · obtain rfl : i = 0 := by omega
    exact ⟨a, m, c, rfl, h.alloc _⟩

theorem parts_heap {w w' : World} {ao : Option Addr} {n cap : Nat} {vs : List Value} {ls : List (List Int)} (h : Parts w ao n cap vs ls) (e : w'.heap = w.heap) : Parts w' ao n cap vs ls := by
  obtain ⟨h1, h2, h3, h4, h5, h6⟩ := h
  refine ⟨h1, h2, h3, h4, fun hn => ?_, fun i hi => ?_⟩
  · obtain ⟨b, off, he, hc⟩ := h5 hn
    exact ⟨b, off, he, fun i hi => by rw [← hc i hi]; unfold World.cell?; rw [e]⟩
  · obtain ⟨a, m, c, he, hs⟩ := h6 i hi
    exact ⟨a, m, c, he, hs.heap e⟩

set_option maxRecDepth 100000 in
set_option maxHeartbeats 4000000 in
theorem again_walk (ao : Option Addr) (n cap : Nat) (xs : List Int) (w : World) (hs : Src w ao n cap xs) (hn : (n : Int) ≤ 1048576) :
    Calls Try.prog 6 #[.slice ao n cap] w fun e w' => e = .returned (.bool true) ∧ Below w.heap.size w w' := by
  have hby := hide hs.hbyt
  have hl := hide hs.hlen
  obtain ⟨j1, j2, j3, j4, j5⟩ := places_cat xs hs.hbyt (xs.length - 0) 0 (Nat.le_refl _) (Nat.zero_le _)
  have j1' : Hid (∀ q ∈ placesS xs 0, isTagB (elS xs q).1 = true ∧ (elS xs q).2.length < 16777216) := j1
  have j4' : Hid (catS ((placesS xs 0).map (elS xs)) = xs.take (endS xs (placesS xs 0))) := j4
  have j5' : Hid (endS xs (placesS xs 0) < xs.length → (findS (xs.drop (endS xs (placesS xs 0)))).2.2.2 ≠ 0) := j5
  have j3' : endS xs (placesS xs 0) ≤ xs.length := j3
  clear j1 j2 j3 j4 j5
  rw [hl.out] at j3'
  go_enter Try.func6, Try.ntmps6
  go_wp2_with fail
  refine (callsIn_wide.1 (all_in ao n cap xs _ hs (by omega))).mono ?_
  rintro e w1 ⟨v, pl, err, rfl, ⟨a1, a2, a3⟩, B1⟩
  rw [hl.out] at a2 a3 j5'
  subst a1
  generalize hE : endS xs (placesS xs 0) = E at *
  have hes : ((placesS xs 0).map (elS xs)).length = (placesS xs 0).length := by simp
  by_cases hlt : E < n
  · obtain ⟨rfl, rfl⟩ := a2 hlt
    have hne := j5'.out hlt
    generalize (findS (xs.drop E)).2.2.2 = er at *
    have hb : (er != 0) = true := by simpa using hne
    have hz : sizeN 0 = 2 := by decide
    clear a2 a3 hne
    go_wp2_with (go_at_call 22; refine (size_any 0 _).mono ?_; rintro e w2 ⟨rfl, hw⟩; have hw2 := hw.symm; subst hw2; rw [hz])
    go_ret
    exact ⟨by simp, B1⟩
  · obtain ⟨rfl, cs, hrow, hmat, hnil⟩ := a3 hlt
    have hEn : E = n := by omega
    have hcat : Hid (catS ((placesS xs 0).map (elS xs)) = xs) := by
      unfold Hid
      rw [j4'.out, List.take_of_length_le (by rw [hl.out]; omega)]
    have hok : Hid (∀ i, i < (placesS xs 0).length → isTagB (((placesS xs 0).map (elS xs)).getD i (0, [])).1 = true ∧ (((placesS xs 0).map (elS xs)).getD i (0, [])).2.length < 16777216 ∧ ∀ x ∈ (((placesS xs 0).map (elS xs)).getD i (0, [])).2, 0 ≤ x ∧ x < 256) := by
      intro i hi
      have h1 := j1'.out ((placesS xs 0)[i]) (List.getElem_mem _)
      have e : ((placesS xs 0).map (elS xs)).getD i (0, []) = elS xs ((placesS xs 0)[i]) := by simp [List.getD, hi]
      rw [e]
      refine ⟨h1.1, h1.2, ?_⟩
      unfold elS contS
      exact fun x hx => hby.out x (List.mem_of_mem_drop (List.mem_of_mem_take (List.mem_of_mem_drop hx)))
    clear a2 a3 j1' j4' j5' hnil hE hlt j3'
    subst hEn
    generalize (placesS xs 0).map (elS xs) = es at *
    generalize (placesS xs 0).length = K at *
    have HES := hide hes
    clear hes
    obtain ⟨aV, cV, rfl⟩ : ∃ aV cV, v = .slice aV K cV := by
      rcases hrow.2 with ⟨rfl, rfl⟩ | ⟨g, c, _, rfl, _⟩
      · exact ⟨_, _, rfl⟩
      · exact ⟨_, _, rfl⟩
    have hKb : (K : Int) ≤ 9223372036854775807 := by
      rcases hrow.2 with ⟨_, rfl⟩ | ⟨g, c, _, _, _, _, h1, h2, _⟩
      · omega
      · unfold maxLen at h2; omega
    go_wp2
    go_loopw [6, 7, 8, 9] (fun v i _ _ wr => ∃ (k m : Nat) (aO : Option Addr) (cO : Nat), k ≤ K ∧ i = .int .i64 k ∧ v = .slice aO m cO ∧ OwnB wr w1.heap.size (.slice aO m cO) (catS (es.take k)) ∧ Below w1.heap.size w1 wr) (fun _ i _ _ _ => K - (intOf i).toNat)
    case atStart => exact ⟨0, 0, none, 0, Nat.zero_le _, rfl, rfl, by simpa [catS] using OwnB.nil w1 w1.heap.size, Below.refl _ _⟩
    case round =>
      obtain ⟨k, m, aO, cO, hk, rfl, rfl, hO, hB⟩ := hrel
      have hOb : Hid (∀ x ∈ catS (es.take k), 0 ≤ x ∧ x < 256) := by
        intro x hx
        refine hby.out x ?_
        rw [← hcat.out]
        unfold catS at hx ⊢
        rw [List.mem_flatten] at hx ⊢
        obtain ⟨l, h1, h2⟩ := hx
        refine ⟨l, ?_, h2⟩
        rw [List.mem_map] at h1 ⊢
        obtain ⟨e, h3, h4⟩ := h1
        exact ⟨e, List.mem_of_mem_take h3, h4⟩
      have hml : Hid (m ≤ E) := by
        unfold Hid
        have h1 := (hO.toSrc hOb.out).hlen
        have h2 := catS_pre es k
        rw [hcat.out, hl.out] at h2
        omega
      by_cases hlt : k < K
      · obtain ⟨ao', m', c', g1, g2, g3⟩ := hmat.get k (by rw [HES.out]; exact hlt)
        obtain ⟨t1, t2, t3⟩ := hok.out k hlt
        have hsn := hide (catS_snoc es k (by rw [HES.out]; exact hlt))
        generalize es.getD k (0, []) = el at g1 g3 t1 t2 t3 hsn
        obtain ⟨t, ys⟩ := el
        simp only [] at g1 g3 t1 t2 t3 hsn
        obtain ⟨gV, rfl⟩ : ∃ gV, aV = some ⟨gV, 0, none⟩ := by
          rcases hrow.2 with ⟨h1, h2⟩ | ⟨g, c, _, h1, _⟩
          · omega
          · simp at h1; exact ⟨g, h1.1⟩
        have c0 := World.ownsRow.cells hrow (g := gV) rfl (2 * k) _ g1
        have c1 := World.ownsRow.cells hrow (g := gV) rfl (2 * k + 1) _ g2
        rw [add_none] at c0 c1
        have hgl := lt_of_cell c0
        have c0 := (hB.cell (p := ⟨gV, 0 + 2 * k, none⟩) hgl).trans c0
        have c1 := (hB.cell (p := ⟨gV, 0 + (2 * k + 1), none⟩) hgl).trans c1
        rw [Nat.zero_add] at c0 c1
        rw [Nat.mul_comm] at c0 c1
        have kI : (k : Int) < (K : Int) := by omega
        clear g1 g2
        have sO := hide (hO.toSrc hOb.out)
        have sY := hide ((g3.toSrc t3).below hB)
        have ePut : Hid (putS (catS (es.take k)) t [ys] = (catS (es.take (k + 1)), 0)) := by
          unfold Hid putS
          rw [if_neg (by rw [t1]; simp), if_neg (by simp; omega), hsn.out]
          simp [putB]
        have hmI : (m : Int) ≤ 140737471578000 := by have := hml.out; omega
        have hB0 := hide hB.size
        clear g3 t3 hO
        go_wp2_with fail
        go_region_held3 (fun W => W.cell? ⟨gV, k * 2, none⟩ = some (.int .i64 t) ∧ W.cell? ⟨gV, k * 2 + 1, none⟩ = some (.slice ao' m' c')) (go_keep) (first | (go_at_call 20; refine (put_any aO m cO (catS (es.take k)) t _ 1 1 [.slice ao' m' c'] [ys] _ ?_ ?_ hmI (by omega)).mono ?_; exact (sO.out.alloc _).heap rfl; exact parts_heap (parts_one sY.out) rfl; rintro e w2 ⟨aN, mN, cN, rfl, oN, B2⟩; rw [ePut.out] at oN ⊢; simp only [] at oN ⊢; have d0 : w2.cell? ⟨gV, k * 2, none⟩ = some (.int .i64 t) := ((B2.cell (p := ⟨gV, k * 2, none⟩) (by have := hB0.out; simp; omega)).trans ((World.cell?_alloc_lt _ _ _ (by have := hB0.out; show gV < wr.heap.size; omega)).trans c0)); have d1 : w2.cell? ⟨gV, k * 2 + 1, none⟩ = some (.slice ao' m' c') := ((B2.cell (p := ⟨gV, k * 2 + 1, none⟩) (by have := hB0.out; simp; omega)).trans ((World.cell?_alloc_lt _ _ _ (by have := hB0.out; show gV < wr.heap.size; omega)).trans c1))))
        have B3 : Below w1.heap.size w1 w2 := (hB.alloc hB.size _).drew.trans (B2.mono (by have := hB0.out; simp; omega))
        go_wp2
        go_roundw
        case rel => exact ⟨k + 1, mN, aN, cN, by omega, by go_num, rfl, oN.rebase (by have := hB0.out; simp; omega), B3⟩
        case measure => simp [intOf]; omega
      · obtain rfl : k = K := by omega
        have hkk : Hid (catS (es.take k) = xs) := by
          unfold Hid
          rw [List.take_of_length_le (by rw [HES.out]; exact Nat.le_refl _)]
          exact hcat.out
        have sO := hO.toSrc hOb.out
        rw [hkk.out] at sO
        have t1 := sO.text
        have t2 := ((hs.below B1).below hB).text
        have hq : ((strOfNums xs).toList == (strOfNums xs).toList) = true := by simp
        have hz : sizeN 0 = 2 := by decide
        go_wp2_with (go_at_call 22; refine (size_any 0 _).mono ?_; rintro e w2 ⟨rfl, hw⟩; have hw2 := hw.symm; subst hw2; rw [hz])
        go_ret
        exact ⟨by simp, B1.trans (hB.mono B1.size)⟩

end Go.Proofs.Ytodhlmnjfkbocaa
