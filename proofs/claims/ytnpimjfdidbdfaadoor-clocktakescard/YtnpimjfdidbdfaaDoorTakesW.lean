/-
  ClockTakes answers true at any tag and any bytes.
-/
import Derived.Test.YtnpimjfdidbdfaaDoorRTake4
import Derived.Test.YtnpimjfdidbdfaaDoorMore
namespace Go.Proofs.YtnpimjfdidbdfaaDoor
open Go.RowKit

theorem leapT : leapB 2000 = true := by decide

set_option maxRecDepth 100000 in
set_option maxHeartbeats 4000000 in
theorem ctakes_walk (tag : Int) (ao : Option Addr) (n cap : Nat) (xs : List Int) (w : World) (ht : Tab w) (hs : Src w ao n cap xs) (hn : n ≤ 140737488351232) :
    Calls Tryd.prog 7 #[.int .i64 tag, .slice ao n cap] w fun e w' => e = .returned (.bool true) ∧ Below w.heap.size w w' := by
  have HL := hide hs.hlen
  have HS := hide hs
  have HT := hide ht
  have HBY := hide hs.hbyt
  have hl := leapT
  have hn' : (n : Int) ≤ 140737488351232 := by omega
  clear ht
  go_enter Tryd.func7, Tryd.ntmps7
  go_wp2_with (first | (at_builtin; refine wpList_appN _ rfl (.tmp 10) (.tmp 11) rfl w.heap.size (.slice (some ⟨w.heap.size, 0, none⟩) 0 0) [] rfl (OwnB.lit _ [] _ 0 rfl rfl (Nat.le_refl _) (by decide)) ao n cap xs rfl (hs.alloc _) n (by simpa using HL.out) (.inl (by simp)) (by omega) (by simp) ?_; intro g1 c1 w1 ho1 hb1 hl1 hc1 hm1 hg1) | (at_builtin; refine wpList_appN _ rfl (.tmp 12) (.tmp 13) rfl w.heap.size (.slice (some ⟨g1, 0, none⟩) n c1) xs rfl (ho1.alloc _) (some ⟨w1.heap.size, 0, none⟩) 1 1 [120] rfl (Src.lit [120] _ 1 rfl rfl (by simp) (by decide)) (n + 1) (by rw [List.length_append, HL.out]; rfl) (.inl (by simp)) (by omega) (by simp; omega) ?_; intro g2 c2 w2 ho2 hb2 hl2 hc2 hm2 hg2) | fail)
  have B2 : Below w.heap.size w w2 := ((((Below.refl _ _).alloc (Nat.le_refl _) _).grown hg1 (by simp) (by intro k hk; cases hk; exact Nat.le_refl _)).alloc (by omega) _).grown hg2 (by simp; omega) (by intro k hk; cases hk; exact hb1)
  have hby : ∀ x ∈ xs ++ [120], 0 ≤ x ∧ x < 256 := by
    intro x hx
    rcases List.mem_append.1 hx with hx | hx
    · exact HBY.out x hx
    · simp at hx; omega
  have s2 : Src w2 (some ⟨g2, 0, none⟩) n c2 xs := ho2.src hby n (by omega) (by rw [List.take_append_of_le_length (by rw [HL.out]; exact Nat.le_refl _), List.take_of_length_le (by rw [HL.out]; exact Nat.le_refl _)]) hm2
  have T1 := hide (take_any tag _ n c2 xs w2 (HT.out.below B2) s2 (by omega))
  have R1 := hide (fun W => refTake_any tag xs HBY.out (by rw [HL.out]; omega) W)
  have HO := hide ho2
  have HBY2 := hide hby
  have HB2 := hide B2
  clear hs ho1 ho2 hb1 hl1 hc1 hm1 hg1 hb2 hl2 hc2 hm2 hg2 B2 s2 hby
  generalize (takS tag xs).1 = V at *
  generalize (takS tag xs).2 = E at *
  have q1 : (V == V) = true := by simp
  have q2 : (E == E) = true := by simp
  refine T1.out.mono ?_
  rintro e w3 ⟨rfl, B3⟩
  have HB3 := hide (HB2.out.trans (B3.mono HB2.out.size))
  have t1 := (HS.out.below HB3.out).text
  have O3 := hide (HO.out.belowA B3)
  clear B3
  go_wp2_with fail
  refine (R1.out _).mono ?_
  rintro e w4 ⟨rfl, B4⟩
  have HB4 := hide (HB3.out.trans (B4.mono HB3.out.size))
  have t2 := (HS.out.below HB4.out).text
  have t3 := ((O3.out.belowA B4).toSrc HBY2.out).text
  have a1 : strOfNums xs ++ (⟨#[120]⟩ : ByteArray) = strOfNums (xs ++ [120]) := strOf_append xs [120]
  have n1 : ¬ 9223372036854775807 < (strOfNums xs).size + 1 := by rw [strOfNums_size, HL.out]; omega
  clear t1 B4
  generalize strOfNums (xs ++ [120]) = S2 at *
  generalize strOfNums xs = S1 at *
  have q3 : (S2.toList == S2.toList) = true := by simp
  go_wp2_with (first | (go_at_call 16; refine (leap_any _ _).mono ?_; rintro e w5 ⟨rfl, rfl⟩) | (go_at_call 17; refine (namesC_any _).mono ?_; rintro e w6 ⟨rfl, rfl⟩))
  go_ret
  exact ⟨rfl, HB4.out⟩

end Go.Proofs.YtnpimjfdidbdfaaDoor
