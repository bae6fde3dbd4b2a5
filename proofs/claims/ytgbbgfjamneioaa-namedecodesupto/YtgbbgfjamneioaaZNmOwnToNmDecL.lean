/-
  The statements' own call own: two answers are the document's, each new memory.
  The statement NameDecodes: its walk.
-/
import Derived.Test.YtgbbgfjamneioaaZNmLawToNmRPut
import Derived.Test.YtgbbgfjamneioaaZNmDecW
namespace Go.Proofs.Ytgbbgfjamneioaa
open Go.RowKit Go.IntWalk Go.Shelf

theorem two_src (W : World) : ∀ j u, (acells [(0, ByteArray.empty), (0, ByteArray.empty)])[j]? = some u → (W.alloc (.cells #[.int .i64 0, .string ⟨#[]⟩, .int .i64 0, .string ⟨#[]⟩] 41)).cell? ((⟨W.heap.size, 0, none⟩ : Addr).add j) = some u := by
  intro j u h
  rw [add_none]
  match j, h with
  | 0, h => cases h; simp
  | 1, h => cases h; simp; rfl
  | 2, h => cases h; simp
  | 3, h => cases h; simp; rfl
  | j + 4, h => simp [acells] at h
theorem own_frozen {w : World} {base : Nat} {e : TypeId} {size : Nat} {g n c k : Nat} {cs : List Value} (h : w.ownsRow base e size (.slice (some ⟨g, 0, none⟩) n c) k cs) (j : Nat) : w.frozen? ⟨g, j, none⟩ = false := by
  obtain ⟨_, ⟨h, _⟩ | ⟨g', cap', cur, he, _, hh, _⟩⟩ := h
  · cases h
  · have := Value.slice.inj he
    obtain ⟨h1, _, _⟩ := this
    cases h1
    simp [World.frozen?, hh]
theorem own_some {w : World} {base : Nat} {e : TypeId} {size : Nat} {a : Option Addr} {n c k : Nat} {cs : List Value} (h : w.ownsRow base e size (.slice a n c) k cs) (hn : 0 < n) : ∃ g, a = some ⟨g, 0, none⟩ := by
  obtain ⟨_, ⟨h, _⟩ | ⟨g', cap', cur, he, _, hh, _⟩⟩ := h
  · cases h; omega
  · have := Value.slice.inj he
    exact ⟨g', this.1⟩

set_option maxRecDepth 100000 in
set_option maxHeartbeats 2000000 in
theorem own12_any (bx by_ bw : Nat) (ax : Option Addr) (nx cx : Nat) (ay : Option Addr) (ny cy : Nat) (aw : Option Addr) (nw cw : Nat) (ns : List (Int × ByteArray)) (w : World) (hx : OwnA w bx (.slice ax nx cx) ns) (hy : OwnA w by_ (.slice ay ny cy) ns) (hw : OwnA w bw (.slice aw nw cw) ns)
    (hz : ∀ x ∈ ns, x.2.size ≤ 1048576) (hl : ns.length ≤ 1048576) (hxy : (Value.slice ay ny cy).ownBlock = none ∨ (Value.slice ay ny cy).ownBlock ≠ (Value.slice ax nx cx).ownBlock) (hxw : (Value.slice aw nw cw).ownBlock = none ∨ (Value.slice aw nw cw).ownBlock ≠ (Value.slice ax nx cx).ownBlock) (hb : bx ≤ w.heap.size) :
    Calls Try.prog 6 #[.slice ax nx cx, .slice ay ny cy, .slice aw nw cw] w fun e w' => e = .returned (.bool true) ∧ w.grownBy w' (Value.slice ax nx cx).ownBlock := by
  have h1 := ralike_any ax nx cx ns aw nw cw ns w (hx.ats hz) (hw.ats hz)
  rw [decide_eq_true rfl] at h1
  have HA := hide h1
  have HX := hide hx
  have HY := hide hy
  have HW := hide hw
  have HZ := hide hz
  have hnx := (hx.ats hz).hl
  have hcx := (hx.ats hz).hcap
  have hmx := (hx.ats hz).hmax
  have HXY := hide hxy
  have HXW := hide hxw
  have hcs := hx.1
  clear hx hy hw h1 hxy hxw hz
  unfold maxLen at hmx
  go_enter Try.func6, Try.ntmps6
  go_wp2_with fail
  refine HA.out.mono ?_
  rintro e w1 ⟨rfl, B1⟩
  have g1 := hide (grown_of_below (r := (Value.slice ax nx cx).ownBlock) B1)
  have HX1 := hide (HX.out.below B1)
  clear HA HX B1
  go_wp2
  go_loopw [7] (fun i wr => ∃ (k : Nat) (cs : List Value), i = .int .i64 k ∧ k ≤ nx ∧ Hid (wr.ownsRow bx 41 2 (.slice ax nx cx) nx cs ∧ w.grownBy wr (Value.slice ax nx cx).ownBlock)) (fun i _ => nx - (intOf i).toNat)
  case atStart => exact ⟨0, acells ns, rfl, Nat.zero_le _, by have h := HX1.out; unfold OwnA at h; rw [hnx] at h; exact h, g1.out⟩
  case round =>
    obtain ⟨k, cs, rfl, hk, HQ⟩ := hrel
    by_cases hlt : k < nx
    · have ltI : (k : Int) < (nx : Int) := by omega
      obtain ⟨g, rfl⟩ := own_some HQ.out.1 (by omega)
      have hcl := HQ.out.1.1
      have hce := World.ownsRow.cells HQ.out.1 (g := g) rfl (k * 2) (cs[k * 2]'(by omega)) (by rw [List.getElem?_eq_getElem (by omega)])
      rw [add_none, Nat.zero_add] at hce
      have hfr := own_frozen HQ.out.1 (k * 2)
      have HS := hide (fun u => World.ownsRow.stored HQ.out.1 (k * 2) u)
      go_wp2
      go_roundw
      case rel => exact ⟨k + 1, _, by go_num, by omega, (HS.out _).1, grown_trans HQ.out.2 (HS.out _).2⟩
      case measure => simp [intOf] <;> omega
    · obtain rfl : k = nx := by omega
      have nI : ¬ ((k : Int) < (k : Int)) := by omega
      obtain ⟨i0, hi, hz0, hz1, hz2⟩ := info_parts Try.infoA
      have hbw : bx ≤ wr.heap.size := Nat.le_trans hb HQ.out.2.size
      have HI := hide hi
      clear hi
      go_wp2_with (at_builtin; refine wpList_append_own_at (w := wr.alloc (.cells #[.int .i64 0, .string ⟨#[]⟩, .int .i64 0, .string ⟨#[]⟩] 41)) rfl (.tmp 22) (.tmp 25) 24 rfl bx 41 i0 _ 2 24 Try.underlying24 HI.out hz0 hz1 hz2 rfl (by decide) (.slice ax k cx) k cs rfl (World.ownsRow.alloc HQ.out.1 _) ⟨wr.heap.size, 0, none⟩ 2 2 (acells [(0, ByteArray.empty), (0, ByteArray.empty)]) rfl rfl (two_src wr) (acells_one _) (by unfold maxLen; omega) (by omega) (by simp; omega) ?_; intro v2 w2 ho2 hg2 _ _)
      have g2 : w.grownBy w2 (Value.slice ax k cx).ownBlock := grown_trans (grown_trans HQ.out.2 (World.grownBy_alloc _ _ _)) hg2
      have y2 : OwnA w2 by_ (.slice ay ny cy) ns := World.ownsRow.kept HY.out g2 HXY.out
      have u2 : OwnA w2 bw (.slice aw nw cw) ns := World.ownsRow.kept HW.out g2 HXW.out
      have h2 := ralike_any ay ny cy ns aw nw cw ns w2 (y2.ats HZ.out) (u2.ats HZ.out)
      rw [decide_eq_true rfl] at h2
      have H2 := hide h2
      have G2 := hide g2
      clear h2 y2 u2 g2 ho2 hg2
      refine H2.out.mono ?_
      rintro e w3 ⟨rfl, B3⟩
      go_wp2
      go_ret
      exact ⟨rfl, grown_trans G2.out (grown_of_below B3)⟩

end Go.Proofs.Ytgbbgfjamneioaa

namespace Go.Proofs.Ytgbbgfjamneioaa
open Go.RowKit Go.IntWalk Go.Shelf

theorem ansN_size {xs : List Int} : ∀ x ∈ ansN xs, x.2.size ≤ 64 := by
  intro x hx
  unfold ansN at hx
  split at hx
  · cases hx
  · split at hx
    · rename_i h
      unfold okN at h
      rw [Bool.and_eq_true] at h
      have h2 := (name_all h.1).2 x hx
      exact attr_short h2
    · cases hx
theorem ansN_len {xs : List Int} : (ansN xs).length ≤ 16 := by
  unfold ansN
  split
  · simp
  · split
    · rename_i h
      unfold okN at h
      rw [Bool.and_eq_true] at h
      exact (name_all h.1).1
    · simp

theorem src_grown {w w' : World} {base : Nat} {v u : Value} {xs : List Int} {N : Nat} {ns : List (Int × ByteArray)} (h : OwnB w base v xs) (ho : OwnA w N u ns) (hg : w.grownBy w' u.ownBlock) : OwnB w' base v xs := row_apart h ho (by decide) hg

set_option maxRecDepth 100000 in
set_option maxHeartbeats 2000000 in
theorem nameDecodes_walk (ao : Option Addr) (n cap : Nat) (xs : List Int) (w : World) (hs : Src w ao n cap xs) (hN : n ≤ 1048576) :
    Calls Try.prog 3 #[.slice ao n cap] w fun e w' => e = .returned (.bool true) ∧ Below w.heap.size w w' := by
  have HL := hide hs.hlen
  have HB := hide hs.hbyt
  have HS := hide hs
  have hAZ : Hid (∀ x ∈ ansN xs, x.2.size ≤ 1048576) := fun x hx => by have := ansN_size x hx; omega
  have hAL : Hid ((ansN xs).length ≤ 1048576) := by have := ansN_len (xs := xs); unfold Hid; omega
  have hD := hide (fun (V : World) (g c : Nat) (h : Src V (some ⟨g, 0, none⟩) n c xs) => callsIn_wide.1 (decodeN_in (some ⟨g, 0, none⟩) n c xs V h hN))
  have hR := hide (fun (V : World) (h : Src V ao n cap xs) => rdecode_any ao n cap xs V h hN)
  generalize ansN xs = AN at *
  generalize ansE xs = AE at *
  have ad : ¬ 9223372036854775807 < (strOfNums xs).size + 1 := by rw [strOfNums_size, HL.out]; omega
  have ae : strOfNums xs ++ { data := #[90] } = strOfNums (xs ++ [90]) := by rw [← strOf_append]; rfl
  clear hs
  go_enter Try.func3, Try.ntmps3
  go_wp2_with (first | (at_builtin; refine wpList_appN _ rfl (.tmp 10) (.tmp 11) rfl w.heap.size (.slice (some ⟨w.heap.size, 0, none⟩) 0 0) [] rfl (OwnB.lit _ [] _ 0 rfl rfl (Nat.le_refl _) (by decide)) ao n cap xs rfl (HS.out.alloc _) n (by simpa using HL.out) (.inl (by simp)) (by omega) (by simp) ?_; intro g1 c1 w1 ho1 hb1 hl1 hc1 hm1 hg1) | (at_builtin; refine wpList_appN _ rfl (.tmp 12) (.tmp 13) rfl w.heap.size (.slice (some ⟨g1, 0, none⟩) n c1) xs rfl (ho1.alloc _) (some ⟨w1.heap.size, 0, none⟩) 1 1 [90] rfl (Src.lit [90] _ 1 rfl rfl (by simp) (by decide)) (n + 1) (by simpa using HL.out) (.inl (by simp)) (by omega) (by simp; omega) ?_; intro g c w2 ho2 hb2 hl2 hc2 hm2 hg2; have hnc : n ≤ c := by omega))
  have z1 : w.heap.size ≤ w1.heap.size := by omega
  have L2 : Below w.heap.size w w2 := ((((Below.refl _ _).alloc (Nat.le_refl _) _).grown hg1 (by simp) (by intro k hk; cases hk; exact Nat.le_refl _)).alloc z1 _).grown hg2 (by simp; omega) (by intro k hk; cases hk; exact hb1)
  have hby : ∀ x ∈ xs ++ [90], 0 ≤ x ∧ x < 256 := by
    intro x hx
    rcases List.mem_append.1 hx with hx | hx
    · exact HB.out x hx
    · simp at hx; omega
  have sI : Src w2 (some ⟨g, 0, none⟩) n c xs := ho2.src hby n (by omega) (by rw [List.take_append_of_le_length (by rw [HL.out]; exact Nat.le_refl _), List.take_of_length_le (by rw [HL.out]; exact Nat.le_refl _)]) hm2
  have HI2 := hide ho2
  have HL2 := hide L2
  have HBY := hide hby
  have d1 := hide (hD.out w2 g c sI)
  have SI := hide sI
  clear sI ho2 L2 hby ho1 hg1 hg2
  refine d1.out.mono ?_
  rintro e w3 ⟨ax, nx, cx, rfl, ox, B3⟩
  have d2 := hide (hD.out w3 g c (SI.out.below B3))
  have HI3 := hide (row_below HI2.out B3)
  have HL3 := hide (HL2.out.trans (B3.mono HL2.out.size))
  have HOX := hide ox
  have s23 := B3.size
  clear d1 hD SI HI2 HL2 ox B3
  go_wp2_with fail
  refine d2.out.mono ?_
  rintro e w4 ⟨ay, ny, cy, rfl, oy, B4⟩
  have HOX4 := hide (HOX.out.below B4)
  have HI4 := hide (row_below HI3.out B4)
  have HL4 := hide (HL3.out.trans (B4.mono HL3.out.size))
  have d3 := hide (hR.out w4 (HS.out.below HL4.out))
  have HOY := hide oy
  have xlt : ∀ j, (Value.slice ax nx cx).ownBlock = some j → j < w3.heap.size := fun j hj => (World.ownsRow.lt HOX.out j hj).2
  have ygt : ∀ j, (Value.slice ay ny cy).ownBlock = some j → w3.heap.size ≤ j := fun j hj => (World.ownsRow.lt oy j hj).1
  have s34 := B4.size
  have HXY : Hid ((Value.slice ay ny cy).ownBlock = none ∨ (Value.slice ay ny cy).ownBlock ≠ (Value.slice ax nx cx).ownBlock) := by
    rcases hq : (Value.slice ay ny cy).ownBlock with _ | j
    · exact .inl rfl
    · refine .inr (fun e => ?_)
      have h1 := ygt j hq
      have h2 := xlt j e.symm
      omega
  clear d2 HOX HI3 HL3 hR oy B4 ygt
  go_wp2_with fail
  refine d3.out.mono ?_
  rintro e w5 ⟨aw, nw, cw, rfl, ow, B5⟩
  have ugt : ∀ j, (Value.slice aw nw cw).ownBlock = some j → w4.heap.size ≤ j := fun j hj => (World.ownsRow.lt ow j hj).1
  have HXW : Hid ((Value.slice aw nw cw).ownBlock = none ∨ (Value.slice aw nw cw).ownBlock ≠ (Value.slice ax nx cx).ownBlock) := by
    rcases hq : (Value.slice aw nw cw).ownBlock with _ | j
    · exact .inl rfl
    · refine .inr (fun e => ?_)
      have h1 := ugt j hq
      have h2 := xlt j e.symm
      omega
  have s45 := B5.size
  have hbx : w.heap.size ≤ w2.heap.size := by have := HL4.out.size; omega
  have HOX5 := HOX4.out.below B5
  have d4 := hide (own12_any _ _ _ ax nx cx ay ny cy aw nw cw AN w5 HOX5 (HOY.out.below B5) ow hAZ.out hAL.out HXY.out HXW.out (by omega))
  have HI5 := hide (row_below HI4.out B5)
  have HL5 := hide (HL4.out.trans (B5.mono HL4.out.size))
  have HOX6 := hide HOX5
  clear HOX5 HOX4 HI4 HL4 d3 ow B5 ugt xlt HXY HXW
  have ee : (AE == AE) = true := by simp
  go_wp2_with fail
  refine d4.out.mono ?_
  rintro e w6 ⟨rfl, g6⟩
  have HI6 : OwnB w6 w.heap.size (.slice (some ⟨g, 0, none⟩) (n + 1) c) (xs ++ [90]) := src_grown HI5.out HOX6.out g6
  have HL6 := hide (HL5.out.grown g6 HL5.out.size (fun j hj => by have := (World.ownsRow.lt HOX6.out j hj).1; have := HL5.out.size; omega))
  have t1 := (OwnB.toSrc HI6 HBY.out).text
  have t2 := (HS.out.below HL6.out).text
  have te : ((strOfNums (xs ++ [90])).toList == (strOfNums (xs ++ [90])).toList) = true := by simp
  clear d4 HI5 HL5 HOX6 g6 HI6 HBY HB HS HOY
  go_wp2_with fail
  refine (works12_any w6).mono ?_
  rintro e w7 ⟨rfl, B7⟩
  go_wp2
  go_ret
  exact ⟨rfl, HL6.out.trans (B7.mono HL6.out.size)⟩

end Go.Proofs.Ytgbbgfjamneioaa
