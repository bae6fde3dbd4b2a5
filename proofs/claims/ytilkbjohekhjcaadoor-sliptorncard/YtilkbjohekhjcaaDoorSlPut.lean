/-
  slip.putSum, slip.Put: a slip is laid behind bytes.
-/
import Derived.Test.YtilkbjohekhjcaaDoorSlFind
namespace Go.Proofs.YtilkbjohekhjcaaDoor
open Go.RowKit Go.IntWalk

/-- A slip's bytes: those ahead of the sum, and all. -/
def headB (k : Int) (ds : List Int) : List Int := [k, (ds.length : Int) % 256, (ds.length : Int) / 256 % 256] ++ ds
def slipB (k : Int) (ds : List Int) : List Int := headB k ds ++ le4b (sumS (headB k ds))
def putS (bs : List Int) (k : Int) (ds : List Int) : List Int × Int :=
  if k < 0 ∨ 255 < k then ([], 2) else if 65535 < ds.length then ([], 3) else (bs ++ slipB k ds, 0)

theorem le4b_bd (s : Int) : ∀ x ∈ le4b s, 0 ≤ x ∧ x < 256 := by
  intro x hx
  simp [le4b] at hx
  rcases hx with rfl | rfl | rfl | rfl <;> omega
theorem headB_bd (k : Int) (ds : List Int) (hk : 0 ≤ k ∧ k ≤ 255) (hd : ∀ x ∈ ds, 0 ≤ x ∧ x < 256) : ∀ x ∈ headB k ds, 0 ≤ x ∧ x < 256 := by
  intro x hx
  simp [headB] at hx
  rcases hx with rfl | rfl | rfl | hx
  · omega
  · omega
  · omega
  · exact hd x hx
theorem slipB_bd (k : Int) (ds : List Int) (hk : 0 ≤ k ∧ k ≤ 255) (hd : ∀ x ∈ ds, 0 ≤ x ∧ x < 256) : ∀ x ∈ slipB k ds, 0 ≤ x ∧ x < 256 := by
  intro x hx
  rcases List.mem_append.1 hx with hx | hx
  · exact headB_bd k ds hk hd x hx
  · exact le4b_bd _ x hx
theorem headB_len (k : Int) (ds : List Int) : (headB k ds).length = ds.length + 3 := by simp [headB]
theorem slipB_len (k : Int) (ds : List Int) : (slipB k ds).length = ds.length + 7 := by simp [slipB, headB_len, le4b]
theorem sumS_bd (xs : List Int) : 0 ≤ sumS xs ∧ sumS xs < 4294967296 := num32_bd _

set_option maxRecDepth 100000 in
set_option maxHeartbeats 1000000 in
theorem putSum_any (g n c base : Nat) (xs : List Int) (s : Int) (w : World) (ho : OwnB w base (.slice (some ⟨g, 0, none⟩) n c) xs) (hn : n ≤ 140737488355000) (hb : base ≤ w.heap.size) :
    Calls Tryd.prog 11 #[.slice (some ⟨g, 0, none⟩) n c, .int .u32 s] w fun e w' => ∃ g' c', e = .returned (.slice (some ⟨g', 0, none⟩) (n + 4) c') ∧ OwnB w' base (.slice (some ⟨g', 0, none⟩) (n + 4) c') (xs ++ le4b s) ∧ base ≤ g' ∧ g' < w'.heap.size ∧ n + 4 ≤ c' ∧ c' ≤ maxLen ∧ w.grownBy w' (some g) := by
  have hl := ho.eqlen
  have HL := hide hl
  have c1 : IntKind.u8.wrap s = s % 256 := by rw [IntKind.wrap_u8]
  have c2 : IntKind.u8.wrap (s / 256) = s / 256 % 256 := by rw [IntKind.wrap_u8]
  have c3 : IntKind.u8.wrap (s / 65536) = s / 65536 % 256 := by rw [IntKind.wrap_u8]
  have c4 : IntKind.u8.wrap (s / 16777216) = s / 16777216 % 256 := by rw [IntKind.wrap_u8]
  clear hl
  go_enter Tryd.func11, Tryd.ntmps11
  go_wp2_with (at_builtin; refine wpList_appN _ rfl (.tmp 5) (.tmp 17) rfl base (.slice (some ⟨g, 0, none⟩) n c) xs rfl (ho.alloc _) (some ⟨w.heap.size, 0, none⟩) 4 4 (le4b s) rfl (Src.lit (le4b s) _ 4 rfl rfl (le4b_bd s) (by decide)) (n + 4) (by have := HL.out; simp [le4b]; omega) (.inl (by simp)) (by omega) (by simp; omega) ?_; intro g2 k2 w2 ho2 hb2 hl2 hc2 hm2 hg2)
  go_ret
  exact ⟨g2, k2, rfl, ho2, hb2, hl2, hc2, hm2, grown_trans (World.grownBy_alloc _ _ _) hg2⟩

set_option maxRecDepth 100000 in
set_option maxHeartbeats 4000000 in
theorem put_any (ab : Option Addr) (nb cb : Nat) (bs : List Int) (k : Int) (ad : Option Addr) (nd cd : Nat) (ds : List Int) (w : World) (hT : Tab w) (hB : Src w ab nb cb bs) (hD : Src w ad nd cd ds) (hn : nb ≤ 140737488200000) (hk : -9223372036854775808 ≤ k ∧ k ≤ 9223372036854775807) :
    Calls Tryd.prog 5 #[.slice ab nb cb, .agg #[.int .i64 k, .slice ad nd cd]] w fun e w' =>
      ∃ ao m c, e = .returned (.tuple #[.slice ao m c, .int .i64 (putS bs k ds).2]) ∧ OwnB w' w.heap.size (.slice ao m c) (putS bs k ds).1 ∧ Below w.heap.size w w' := by
  obtain ⟨i0, hi, hz0, hz1, hz2⟩ := info_parts Tryd.infoB
  have HB := hide hB
  have HD := hide hD
  have HT := hide hT
  have hlb := hB.hlen
  have hld := hD.hlen
  have hcd := hD.hcap
  have hmd := hD.hmax
  unfold maxLen at hmd
  by_cases hk1 : k < 0 ∨ 255 < k
  · have hp : putS bs k ds = ([], 2) := by unfold putS; rw [if_pos hk1]
    rw [hp]
    clear hB hD hT
    rcases hk1 with hk1 | hk1
    · go_enter Tryd.func5, Tryd.ntmps5
      go_wp2
      go_ret2
      exact ⟨none, 0, 0, rfl, OwnB.nil _ _, (Below.refl _ _).alloc (Nat.le_refl _) _⟩
    · have hk2 : ¬ k < 0 := by omega
      go_enter Tryd.func5, Tryd.ntmps5
      go_wp2
      go_ret2
      exact ⟨none, 0, 0, rfl, OwnB.nil _ _, (Below.refl _ _).alloc (Nat.le_refl _) _⟩
  · have hk2 : ¬ k < 0 := by omega
    have hk3 : ¬ 255 < k := by omega
    by_cases hbig : 65535 < nd
    · have hp : putS bs k ds = ([], 3) := by unfold putS; rw [if_neg hk1, if_pos (by omega)]
      rw [hp]
      have hbI : (65535 : Int) < (nd : Int) := by omega
      clear hB hD hT hk1
      go_enter Tryd.func5, Tryd.ntmps5
      go_wp2
      go_ret2
      exact ⟨none, 0, 0, rfl, OwnB.nil _ _, (Below.refl _ _).alloc (Nat.le_refl _) _⟩
    · have hp : putS bs k ds = (bs ++ slipB k ds, 0) := by unfold putS; rw [if_neg hk1, if_neg (by omega)]
      rw [hp]
      have hbI : ¬ (65535 : Int) < (nd : Int) := by omega
      have hsz : sizeI (nd : Int) = (nd : Int) + 7 := by unfold sizeI; rw [if_neg (by omega)]
      have HZ : Hid (∀ W : World, Calls Tryd.prog 7 #[.int .i64 (nd : Int)] W fun e w' => e = .returned (.int .i64 ((nd : Int) + 7)) ∧ w' = W) := fun W => by have := size_any (nd : Int) (by omega) W; rw [hsz] at this; exact this
      have c1 : IntKind.u8.wrap k = k := by rw [IntKind.wrap_u8]; omega
      have c2 : IntKind.u8.wrap (nd : Int) = (nd : Int) % 256 := by rw [IntKind.wrap_u8]
      have c3 : IntKind.u8.wrap ((nd : Int) / 256) = (nd : Int) / 256 % 256 := by rw [IntKind.wrap_u8]
      have HLB := hide hlb
      have HLD := hide hld
      have HX : Hid (Below w.heap.size w (w.alloc (.cells #[.int .i64 k, .slice ad nd cd] 30))) := (Below.refl _ _).alloc (Nat.le_refl _) _
      have hbd := hide (headB_bd k ds (by omega) hD.hbyt)
      have HBY := hide hB.hbyt
      have HDY := hide hD.hbyt
      have HW0 := hide (show (w.heap.size : Nat) < w.heap.size + 1 by omega)
      clear hB hD hT hk1 hlb hld hsz
      go_enter Tryd.func5, Tryd.ntmps5
      go_wp2_with (first | (go_at_call 7; refine (HZ.out _).mono ?_; rintro e w0 ⟨rfl, rfl⟩) | (at_make; refine wpList_make_own _ rfl _ _ 24 rfl (w.heap.size + 1) 5 i0 (.int .u8 0) 1 Tryd.underlying24 hi hz0 hz1 .i64 .i64 _ (nb + (nd + 7)) rfl (by first | rfl | simp) (by omega) (by rw [hz2]; omega) (by unfold maxLen; omega) (by simp) ?_; intro wm hom hgm; have hom' : OwnB wm (w.heap.size + 1) (.slice (some ⟨w.heap.size + 1, 0, none⟩) 0 (nb + (nd + 7))) [] := (by unfold OwnB; simpa using hom); have bm : Below w.heap.size w wm := HX.out.grown hgm (by simp) (by simp); have zm : w.heap.size + 1 ≤ wm.heap.size := (by have := hgm.size; simpa using this); have Xm : Box wm w.heap.size k (.slice ad nd cd) := (Box.new w k (.slice ad nd cd) 30).grown hgm (by simp)) | (at_builtin; refine wpList_appN _ rfl (.tmp 27) (.tmp 28) rfl (w.heap.size + 1) (.slice (some ⟨w.heap.size + 1, 0, none⟩) 0 (nb + (nd + 7))) [] rfl hom' ab nb cb bs rfl (HB.out.below bm) nb (by simpa using HLB.out) (.inl (by simp)) (by omega) zm ?_; intro g1 c1 w1 ho1 hb1 hl1 hc1 hm1 hg1; have bw1 : Below w.heap.size w w1 := bm.grown hg1 bm.size (own_ge (by omega)); have X1 : Box w1 w.heap.size k (.slice ad nd cd) := Xm.grown hg1 (by simp [Value.ownBlock]); have z1 : w.heap.size + 1 ≤ w1.heap.size := Nat.le_trans zm hg1.size; have y10 := X1.c0; clear hom hom' hgm) | (at_builtin; refine wpList_appN _ rfl (.tmp 30) (.tmp 39) rfl (w.heap.size + 1) (.slice (some ⟨g1, 0, none⟩) nb c1) bs rfl (ho1.alloc _) (some ⟨w1.heap.size, 0, none⟩) 3 3 [k, (nd : Int) % 256, (nd : Int) / 256 % 256] rfl (Src.lit [k, (nd : Int) % 256, (nd : Int) / 256 % 256] _ 3 rfl rfl (by intro x hx; simp at hx; rcases hx with rfl | rfl | rfl <;> omega) (by decide)) (nb + 3) (by simpa using HLB.out) (.inl (by simp)) (by omega) (by simp; omega) ?_; intro g2 c2 w2 ho2 hb2 hl2 hc2 hm2 hg2; have bw2 : Below w.heap.size w w2 := (bw1.alloc bw1.size _).grown hg2 (by have := bw1.size; simp; omega) (own_ge (by omega)); have X2 : Box w2 w.heap.size k (.slice ad nd cd) := (X1.alloc _).grown hg2 (by simp [Value.ownBlock]; omega); have z2 : w.heap.size + 1 ≤ w2.heap.size := (by have := hg2.size; simp at this; omega); have y21 := X2.c1; clear y10 ho1 hg1) | (at_builtin; refine wpList_appN _ rfl (.tmp 41) (.tmp 43) rfl (w.heap.size + 1) (.slice (some ⟨g2, 0, none⟩) (nb + 3) c2) _ rfl ho2 ad nd cd ds rfl (HD.out.below bw2) (nb + 3 + nd) (by have := HLB.out; have := HLD.out; simp; omega) (.inl (by simp)) (by omega) z2 ?_; intro g3 c3 w3 ho3 hb3 hl3 hc3 hm3 hg3; have bw3 : Below w.heap.size w w3 := bw2.grown hg3 bw2.size (own_ge (by omega)); have z3 : w.heap.size + 1 ≤ w3.heap.size := Nat.le_trans z2 hg3.size; have eB : bs ++ [k, (nd : Int) % 256, (nd : Int) / 256 % 256] ++ ds = bs ++ headB k ds := (by unfold headB; rw [HLD.out]; simp); rw [eB] at ho3; have sA : Src w3 (some ⟨g3, 0, none⟩) (nb + 3 + nd) c3 (bs ++ headB k ds) := ho3.toSrc (by intro x hx; rcases List.mem_append.1 hx with hx | hx; exact HBY.out x hx; exact hbd.out x hx); have sT := sA.tail nb (by omega); have eD : (bs ++ headB k ds).drop nb = headB k ds := (by rw [← HLB.out]; simp); rw [eD] at sT; have eS := fun W => slice_lo W (some ⟨g3, 0, none⟩) (nb + 3 + nd) c3 (nb : Int) nb rfl (by omega); generalize cutA (some ⟨g3, 0, none⟩) c3 nb = aT at sT eS; have HST := hide sT; have HO3 := hide ho3; clear y21 ho2 hg2 ho3 hg3 sA sT eB eD) | (go_at_call 10; refine (sum_one aT (nb + 3 + nd - nb) (c3 - nb) _ (headB k ds) _ ?_ ?_ ?_).mono ?_; exact (HT.out.below bw3 HT.out.lt).alloc _; exact HST.out.alloc _; simp; rintro e w4 ⟨rfl, rfl⟩) | (go_at_call 11; refine (putSum_any g3 (nb + 3 + nd) c3 (w.heap.size + 1) (bs ++ headB k ds) _ _ (HO3.out.alloc _) (by omega) (by simp; omega)).mono ?_; rintro e w5 ⟨g5, c5, rfl, ho5, hb5, hl5, hc5, hm5, hg5⟩))
      go_ret2
      refine ⟨_, _, _, rfl, ?_, ?_⟩
      · have : bs ++ headB k ds ++ le4b (sumS (headB k ds)) = bs ++ slipB k ds := by unfold slipB; simp
        rw [this] at ho5
        exact ho5.rebase (by omega)
      · exact (bw3.alloc bw3.size _).grown hg5 (by have := bw3.size; simp; omega) (some_ge (by omega))

end Go.Proofs.YtilkbjohekhjcaaDoor
