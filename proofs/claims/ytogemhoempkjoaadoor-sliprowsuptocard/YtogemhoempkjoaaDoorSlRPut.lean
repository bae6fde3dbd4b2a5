/-
  The document's Bytes and Put.
-/
import Derived.Test.YtogemhoempkjoaaDoorSlRef
import Derived.Test.YtogemhoempkjoaaDoorSlPut
import Derived.Test.YtogemhoempkjoaaDoorStep
namespace Go.Proofs.YtogemhoempkjoaaDoor
open Go.RowKit Go.IntWalk

def sh (s : Int) : Nat → Int
  | 0 => s
  | 1 => s / 256
  | 2 => s / 65536
  | 3 => s / 16777216
  | _ => 0
theorem sh_next (s : Int) (hs : 0 ≤ s ∧ s < 4294967296) (j : Nat) (hj : j < 4) : sh s j / 256 = sh s (j + 1) ∧ 0 ≤ sh s j ∧ sh s j < 4294967296 ∧ (le4b s).take (j + 1) = (le4b s).take j ++ [sh s j % 256] := by
  match j, hj with
  | 0, _ => exact ⟨rfl, hs.1, hs.2, rfl⟩
  | 1, _ => exact ⟨by show s / 256 / 256 = s / 65536; omega, by show 0 ≤ s / 256; omega, by show s / 256 < 4294967296; omega, rfl⟩
  | 2, _ => exact ⟨by show s / 65536 / 256 = s / 16777216; omega, by show 0 ≤ s / 65536; omega, by show s / 65536 < 4294967296; omega, rfl⟩
  | 3, _ => exact ⟨by show s / 16777216 / 256 = 0; omega, by show 0 ≤ s / 16777216; omega, by show s / 16777216 < 4294967296; omega, rfl⟩

set_option maxRecDepth 100000 in
set_option maxHeartbeats 4000000 in
theorem refBytes_any (k : Int) (ad : Option Addr) (nd cd : Nat) (ds : List Int) (w : World) (hD : Src w ad nd cd ds) (hn : nd ≤ 65535) (hk : 0 ≤ k ∧ k ≤ 255) :
    Calls Tryd.prog 28 #[.agg #[.int .i64 k, .slice ad nd cd]] w fun e w' => ∃ g c, e = .returned (.slice (some ⟨g, 0, none⟩) (nd + 7) c) ∧ OwnB w' w.heap.size (.slice (some ⟨g, 0, none⟩) (nd + 7) c) (slipB k ds) ∧ Below w.heap.size w w' := by
  have HD := hide hD
  have HLD := hide hD.hlen
  have hbd := hide (headB_bd k ds hk hD.hbyt)
  have c1 : IntKind.u8.wrap k = k := by rw [IntKind.wrap_u8]; omega
  have c2 : (nd : Int).tmod 256 = (nd : Int) % 256 := Int.tmod_eq_emod_of_nonneg (by omega)
  have c3 : (nd : Int).tdiv 256 = (nd : Int) / 256 := Int.tdiv_eq_ediv_of_nonneg (by omega)
  have c4 : IntKind.u8.wrap ((nd : Int) % 256) = (nd : Int) % 256 := by rw [IntKind.wrap_u8]; omega
  have c5 : IntKind.u8.wrap ((nd : Int) / 256) = (nd : Int) / 256 % 256 := by rw [IntKind.wrap_u8]
  have c6 : IntKind.i64.wrap ((nd : Int) / 256) = (nd : Int) / 256 := i64_in _ (by omega)
  have HX : Hid (Below w.heap.size w (w.alloc (.cells #[.int .i64 k, .slice ad nd cd] 32))) := (Below.refl _ _).alloc (Nat.le_refl _) _
  have hsum := sumS_bd (headB k ds)
  obtain ⟨s, hs⟩ : ∃ s, sumS (headB k ds) = s := ⟨_, rfl⟩
  have HSS := hide hs
  rw [hs] at hsum
  clear hD hs
  go_enter Tryd.func28, Tryd.ntmps28
  go_wp2_with (first | (at_builtin; refine wpList_appN _ rfl (.tmp 19) (.tmp 21) rfl (w.heap.size + 1) (.slice (some ⟨w.heap.size + 1, 0, none⟩) 3 3) [k, (nd : Int) % 256, (nd : Int) / 256 % 256] rfl (OwnB.litAt _ _ [k, (nd : Int) % 256, (nd : Int) / 256 % 256] _ 3 rfl rfl (by simp) (by simp) (by decide)) ad nd cd ds rfl ((HD.out.alloc _).alloc _) (3 + nd) (by have := HLD.out; simp; omega) (.inl (by simp)) (by omega) (by simp) ?_; intro g3 c3 w3 ho3 hb3 hl3 hc3 hm3 hg3; have bw3 : Below w.heap.size w w3 := (HX.out.alloc (by simp) _).grown hg3 (by simp; omega) (own_ge (by omega)); have eB : [k, (nd : Int) % 256, (nd : Int) / 256 % 256] ++ ds = headB k ds := (by unfold headB; rw [HLD.out]); rw [eB] at ho3; have HO3 := hide ho3; have HBW3 := hide bw3; have HSA := hide (ho3.toSrc (by exact hbd.out)); clear ho3 hg3 eB bw3) | (go_at_call 11; refine (refSum_any _ _ _ (headB k ds) _ HSA.out).mono ?_; rintro e w3 ⟨rfl, rfl⟩; rw [HSS.out]))
  go_loopw [4, 5, 6] (fun v x i wr => ∃ (j g c : Nat), j ≤ 4 ∧ i = .int .i64 j ∧ x = .int .u32 (sh s j) ∧ v = .slice (some ⟨g, 0, none⟩) (3 + nd + j) c ∧ w.heap.size + 1 ≤ g ∧ Hid (OwnB wr (w.heap.size + 1) (.slice (some ⟨g, 0, none⟩) (3 + nd + j) c) (headB k ds ++ (le4b s).take j)) ∧ Hid (Below w.heap.size w wr) ∧ w.heap.size + 1 ≤ wr.heap.size) (fun _ _ i _ => 4 - (intOf i).toNat)
  case atStart => exact ⟨0, g3, c3, by omega, rfl, rfl, rfl, hb3, by unfold Hid; simpa using HO3.out, HBW3, by omega⟩
  case round =>
    obtain ⟨j, g, c, hj, rfl, rfl, rfl, hgb, HO, HB, hsz⟩ := hrel
    by_cases hlt : j < 4
    · obtain ⟨e1, e2, e3, e4⟩ := sh_next s hsum j hlt
      have hjI : (j : Int) < 4 := by omega
      have HE4 := hide e4
      generalize sh s j = y at *
      obtain ⟨y2, hy2⟩ : ∃ y2, sh s (j + 1) = y2 := ⟨_, rfl⟩
      have HY2 := hide hy2
      rw [hy2] at e1
      have b2 : y2 % 4294967296 = y2 := by omega
      clear hy2
      have d1 : y.tmod 256 = y % 256 := Int.tmod_eq_emod_of_nonneg e2
      have d2 : y.tdiv 256 = y2 := by rw [Int.tdiv_eq_ediv_of_nonneg e2]; exact e1
      have d3 : IntKind.u8.wrap (y % 256) = y % 256 := by rw [IntKind.wrap_u8]; omega
      have hl := HO.out.eqlen
      have HL := hide hl
      clear e4 e1 hl
      go_wp2_with (at_builtin; refine wpList_appN _ rfl (.tmp 29) (.tmp 33) rfl (w.heap.size + 1) (.slice (some ⟨g, 0, none⟩) (3 + nd + j) c) _ rfl (HO.out.alloc _) (some ⟨wr.heap.size, 0, none⟩) 1 1 [y % 256] rfl (Src.lit [y % 256] _ 1 rfl rfl (by intro x hx; simp at hx; omega) (by decide)) (3 + nd + (j + 1)) (by have := HL.out; rw [List.length_append]; simp only [List.length_cons, List.length_nil]; omega) (.inl (by simp)) (by omega) (by simp; omega) ?_; intro g2 k2 w2 ho2 hb2 hl2 hc2 hm2 hg2; have bw2 : Below w.heap.size w w2 := (HB.out.alloc HB.out.size _).grown hg2 (by have := HB.out.size; simp; omega) (own_ge (by omega)); rw [List.append_assoc, ← HE4.out] at ho2)
      go_roundw
      case rel => exact ⟨j + 1, g2, k2, by omega, by go_num, by rw [HY2.out]; try rw [b2], rfl, hb2, ho2, bw2, by omega⟩
      case measure => simp [intOf]; omega
    · obtain rfl : j = 4 := by omega
      have e7 : 3 + nd + 4 = nd + 7 := by omega
      rw [e7] at HO ⊢
      have e8 : headB k ds ++ (le4b s).take 4 = slipB k ds := by unfold slipB; rw [HSS.out]; simp [le4b]
      rw [e8] at HO
      go_wp2
      go_ret
      exact ⟨g, c, rfl, HO.out.rebase (by omega), HB.out⟩

set_option maxRecDepth 100000 in
set_option maxHeartbeats 4000000 in
theorem refPut_any (ab : Option Addr) (nb cb : Nat) (bs : List Int) (k : Int) (ad : Option Addr) (nd cd : Nat) (ds : List Int) (w : World) (hB : Src w ab nb cb bs) (hD : Src w ad nd cd ds) (hn : nb ≤ 140737488200000) :
    Calls Tryd.prog 17 #[.slice ab nb cb, .agg #[.int .i64 k, .slice ad nd cd]] w fun e w' =>
      ∃ ao m c, e = .returned (.tuple #[.slice ao m c, .int .i64 (putS bs k ds).2]) ∧ OwnB w' w.heap.size (.slice ao m c) (putS bs k ds).1 ∧ Below w.heap.size w w' := by
  have HB := hide hB
  have HD := hide hD
  have hlb := hB.hlen
  have hld := hD.hlen
  have hcd := hD.hcap
  have hmd := hD.hmax
  unfold maxLen at hmd
  by_cases hk1 : k < 0 ∨ 255 < k
  · have hp : putS bs k ds = ([], 2) := by unfold putS; rw [if_pos hk1]
    rw [hp]
    clear hB hD
    rcases hk1 with hk1 | hk1
    · go_enter Tryd.func17, Tryd.ntmps17
      go_wp2
      go_ret2
      exact ⟨none, 0, 0, rfl, OwnB.nil _ _, (Below.refl _ _).alloc (Nat.le_refl _) _⟩
    · have hk2 : ¬ k < 0 := by omega
      go_enter Tryd.func17, Tryd.ntmps17
      go_wp2
      go_ret2
      exact ⟨none, 0, 0, rfl, OwnB.nil _ _, (Below.refl _ _).alloc (Nat.le_refl _) _⟩
  · have hk2 : ¬ k < 0 := by omega
    have hk3 : ¬ 255 < k := by omega
    by_cases hbig : 65535 < nd
    · have hp : putS bs k ds = ([], 3) := by unfold putS; rw [if_neg hk1, if_pos (by omega)]
      rw [hp]
      have hbI : (65535 : Int) < (nd : Int) := by omega
      clear hB hD hk1
      go_enter Tryd.func17, Tryd.ntmps17
      go_wp2
      go_ret2
      exact ⟨none, 0, 0, rfl, OwnB.nil _ _, (Below.refl _ _).alloc (Nat.le_refl _) _⟩
    · have hp : putS bs k ds = (bs ++ slipB k ds, 0) := by unfold putS; rw [if_neg hk1, if_neg (by omega)]
      rw [hp]
      have hbI : ¬ (65535 : Int) < (nd : Int) := by omega
      have HLB := hide hlb
      have hbd := hide (slipB_bd k ds (by omega) hD.hbyt)
      clear hB hD hk1 hlb hld
      go_enter Tryd.func17, Tryd.ntmps17
      go_wp2
      have HU : Hid (Below w.heap.size w (w.alloc (.cells #[.int .i64 k, .slice ad nd cd] 32))) := (Below.refl _ _).alloc (Nat.le_refl _) _
      have hX := Box.new w k (.slice ad nd cd) 32
      have hUz : w.heap.size + 1 = (w.alloc (.cells #[.int .i64 k, .slice ad nd cd] 32)).heap.size := by simp
      generalize w.alloc (.cells #[.int .i64 k, .slice ad nd cd] 32) = U at HU hX hUz ⊢
      have hc0 := hX.c0
      have hc1 := hX.c1
      clear hX
      go_region_held3 (fun W => W.cell? ⟨w.heap.size, 0, none⟩ = some (.int .i64 k) ∧ W.cell? ⟨w.heap.size, 1, none⟩ = some (.slice ad nd cd)) (go_keep) (first | (refine step_appN _ rfl (.tmp 18) (.tmp 19) rfl (w.heap.size + 1) (.slice (some ⟨U.heap.size, 0, none⟩) 0 0) [] ?_ ?_ ab nb cb bs ?_ ?_ nb ?_ ?_ ?_ ?_ ?_; exact rfl; exact OwnB.litAt (w := U) (w.heap.size + 1) _ [] _ 0 rfl rfl rfl (by omega) (by decide); exact rfl; exact ((HB.out.below HU.out).alloc _).heap rfl; (simpa using HLB.out); (exact .inl (by simp)); omega; (focus (simp; try omega)); intro g1 c1 w1 ho1 hb1 hl1 hc1' hm1 hg1; have z1 : U.heap.size + 1 ≤ w1.heap.size := (by have := hg1.size; simpa using this); have q1 : U.grownBy w1 (some U.heap.size) := ⟨hg1.os, hg1.tape, hg1.output, Nat.le_of_succ_le z1, fun k hk hr => (hg1.block k (by simp; omega) hr).trans (Below.heap_alloc U _ k hk)⟩; have u0 : w1.cell? ⟨w.heap.size, 0, none⟩ = some (.int .i64 k) := q1.cell hc0 (by simp; omega); have u1 : w1.cell? ⟨w.heap.size, 1, none⟩ = some (.slice ad nd cd) := q1.cell hc1 (by simp; omega); have bw1 : Below w.heap.size w w1 := HU.out.grown q1 HU.out.size (some_ge (by omega))) | (go_at_call 28; refine (refBytes_any k ad nd cd ds _ (HD.out.below bw1) (by omega) (by omega)).mono ?_; rintro e w2 ⟨g2, c2, rfl, ho2, bel2⟩; have v0 : w2.cell? ⟨w.heap.size, 0, none⟩ = some (.int .i64 k) := (bel2.cell (p := ⟨w.heap.size, 0, none⟩) (by show w.heap.size < w1.heap.size; omega)).trans u0; have v1 : w2.cell? ⟨w.heap.size, 1, none⟩ = some (.slice ad nd cd) := (bel2.cell (p := ⟨w.heap.size, 1, none⟩) (by show w.heap.size < w1.heap.size; omega)).trans u1) | (refine step_appN _ rfl (.tmp 20) (.tmp 22) rfl (w.heap.size + 1) (.slice (some ⟨g1, 0, none⟩) nb c1) bs ?_ ?_ (some ⟨g2, 0, none⟩) (nd + 7) c2 (slipB k ds) ?_ ?_ (nb + (nd + 7)) ?_ ?_ ?_ ?_ ?_; exact rfl; exact (ho1.belowA bel2).heap rfl; exact rfl; exact (ho2.toSrc hbd.out).heap rfl; (rw [List.length_append, HLB.out, ← ho2.eqlen]); (exact .inl (by simp)); omega; (focus (have := bel2.size; simp; try omega)); intro g3 c3 w3 ho3 hb3 hl3 hc3 hm3 hg3; have x0 : w3.cell? ⟨w.heap.size, 0, none⟩ = some (.int .i64 k) := hg3.cell v0 (by simp [Value.ownBlock]; omega); have x1 : w3.cell? ⟨w.heap.size, 1, none⟩ = some (.slice ad nd cd) := hg3.cell v1 (by simp [Value.ownBlock]; omega)))
      go_wp2
      go_ret2
      refine ⟨_, _, _, rfl, ho3.rebase (by omega), ?_⟩
      exact (bw1.trans (bel2.mono bw1.size)).grown hg3 (by have := bw1.size; have := bel2.size; omega) (own_ge (by omega))

end Go.Proofs.YtogemhoempkjoaaDoor
