/-
  A name that may be: chancerylaw12.there answers true.
  The statements' own calls lent, kept, names, works.
-/
import Derived.Test.YtgbbgfjamneioaaDoorZNmRow
import Derived.Test.YtgbbgfjamneioaaDoorZNmLent
namespace Go.Proofs.YtgbbgfjamneioaaDoor
open Go.RowKit Go.IntWalk Go.Shelf

theorem may_de (k : Int) (hk : k = 12 ∨ k = 19) : mayL k [68, 69] = true := by
  rcases hk with rfl | rfl <;> decide

theorem great_any (b : Int) (h1 : 65 ≤ b) (h2 : b ≤ 90) (w : World) :
    Calls Tryd.prog 80 #[.int .u8 b] w fun e w' => e = .returned (.bool true) ∧ w' = w := by
  go_enter Tryd.func80, Tryd.ntmps80
  go_wp2
  go_ret
  exact ⟨rfl, rfl⟩

set_option maxRecDepth 100000 in
theorem country_de (w : World) :
    Calls Tryd.prog 56 #[.string ⟨#[68, 69]⟩] w fun e w' => e = .returned (.bool true) ∧ w' = w := by
  go_enter Tryd.func56, Tryd.ntmps56
  go_wp2_with (go_at_call 80; refine (great_any _ (by decide) (by decide) _).mono ?_; rintro e w1 ⟨rfl, hw⟩; have hw2 := hw.symm; subst hw2)
  go_ret
  exact ⟨rfl, rfl⟩

set_option maxRecDepth 100000 in
theorem mayBe_de (w : World) :
    Calls Tryd.prog 33 #[.agg #[.int .i64 6, .string ⟨#[68, 69]⟩]] w fun e w' => e = .returned (.bool true) ∧ Below w.heap.size w w' := by
  have m1 := hide (fun W => may_any 19 ⟨#[68, 69]⟩ (by decide) W)
  have m2 := hide (fun W => may_any 12 ⟨#[68, 69]⟩ (by decide) W)
  have e1 := may_de 19 (.inr rfl)
  have e2 := may_de 12 (.inl rfl)
  have hB := nbelow w (.cells #[.int .i64 6, .string ⟨#[68, 69]⟩] 52)
  go_enter Tryd.func33, Tryd.ntmps33
  go_wp2_with (first
    | (go_at_call 56; refine (country_de _).mono ?_; rintro e w1 ⟨rfl, hw⟩; have hw2 := hw.symm; subst hw2)
    | (go_at_call_of 57 (19 : Int); refine (m1.out _).mono ?_; rintro e w1 ⟨rfl, L1⟩; have c1 := (L1.cell (p := ⟨w.heap.size, 1, none⟩) (by simp)).trans (show (w.alloc (.cells #[.int .i64 6, .string ⟨#[68, 69]⟩] 52)).cell? ⟨w.heap.size, 1, none⟩ = some (.string ⟨#[68, 69]⟩) by simp); replace hB := hB.trans (L1.mono hB.size); rw [e1])
    | (go_at_call_of 57 (12 : Int); refine (m2.out _).mono ?_; rintro e w2 ⟨rfl, L2⟩; replace hB := hB.trans (L2.mono hB.size); rw [e2]))
  go_ret
  exact ⟨rfl, hB⟩

set_option maxRecDepth 100000 in
theorem may_one (w : World) :
    Calls Tryd.prog 12 #[.slice (some ⟨w.heap.size, 0, none⟩) 1 1] (w.alloc (.cells #[.int .i64 6, .string ⟨#[68, 69]⟩] 52)) fun e w' => e = .returned (.bool true) ∧ Below w.heap.size w w' := by
  have hm := hide mayBe_de
  have hB := nbelow w (.cells #[.int .i64 6, .string ⟨#[68, 69]⟩] 52)
  have c0 : (w.alloc (.cells #[.int .i64 6, .string ⟨#[68, 69]⟩] 52)).cell? ⟨w.heap.size, 0, none⟩ = some (.int .i64 6) := by simp
  have c1 : (w.alloc (.cells #[.int .i64 6, .string ⟨#[68, 69]⟩] 52)).cell? ⟨w.heap.size, 1, none⟩ = some (.string ⟨#[68, 69]⟩) := by simp
  generalize (w.alloc (.cells #[.int .i64 6, .string ⟨#[68, 69]⟩] 52)) = W at hB c0 c1 ⊢
  have hs := hB.size
  generalize w.heap.size = g at hB c0 c1 hs ⊢
  go_enter Tryd.func12, Tryd.ntmps12
  go_wp2
  go_loopw [10] (fun v wr => (v = .int .i64 0 ∧ wr = W) ∨ (v = .int .i64 1 ∧ Below W.heap.size W wr)) (fun v _ => 1 - (intOf v).toNat)
  case atStart => exact .inl ⟨rfl, rfl⟩
  case round =>
    rcases hrel with ⟨rfl, rfl⟩ | ⟨rfl, hQ⟩
    · go_wp2_with (go_at_call 33; refine (hm.out _).mono ?_; rintro e w1 ⟨rfl, h1⟩)
      go_roundw
      case rel => exact .inr ⟨rfl, (nbelow _ _).trans (h1.mono (by simp))⟩
      case measure => simp [intOf]
    · go_wp2
      go_ret
      exact ⟨rfl, hB.trans (hQ.mono hs)⟩

set_option maxRecDepth 100000 in
theorem there_any (w : World) :
    Calls Tryd.prog 21 #[] w fun e w' => e = .returned (.bool true) ∧ Below w.heap.size w w' := by
  have hm := hide (may_one w)
  go_enter Tryd.func21, Tryd.ntmps21
  go_wp2_with (go_at_call 12; refine hm.out.mono ?_; rintro e w1 ⟨rfl, h1⟩)
  go_ret
  exact ⟨rfl, h1⟩

end Go.Proofs.YtgbbgfjamneioaaDoor

namespace Go.Proofs.YtgbbgfjamneioaaDoor
open Go.RowKit Go.IntWalk Go.Shelf

theorem OwnA.alloc {w : World} {base : Nat} {v : Value} {xs : List (Int × ByteArray)} (h : OwnA w base v xs) (o : Obj) : OwnA (w.alloc o) base v xs := World.ownsRow.alloc h o
theorem mark_src (w : World) : Ats (w.alloc (.cells #[.int .i64 77, .string ⟨#[]⟩] 52)) (some ⟨w.heap.size, 0, none⟩) 1 1 [(77, ByteArray.empty)] := by
  refine ⟨rfl, Nat.le_refl _, by decide, by intro x hx; simp at hx; subst hx; decide, fun _ => ⟨w.heap.size, 0, rfl, fun i hi => ?_⟩⟩
  obtain rfl : i = 0 := by omega
  exact ⟨by simp, by simp; rfl⟩

set_option maxRecDepth 100000 in
set_option maxHeartbeats 1000000 in
theorem lentA_any (ao : Option Addr) (n cap : Nat) (xs : List (Int × ByteArray)) (w : World) (hA : Ats w ao n cap xs) (hnil : ao = none → n = 0 ∧ cap = 0) (hn : n ≤ 1048576) (hz : ∀ x ∈ xs, x.2.size ≤ 1048576) :
    Calls Tryd.prog 7 #[.slice ao n cap] w fun e w' => ∃ g c, e = .returned (.slice (some ⟨g, 0, none⟩) n c) ∧ LentA w' w.heap.size g n c xs ∧ Below w.heap.size w w' := by
  have HL := hide hA.hl
  have HN := hide hnil
  have HZ := hide hz
  have h1 : Hid (Ats (w.alloc (.cells #[] 52)) ao n cap xs) := hA.below (nbelow _ _)
  clear hnil hz hA
  go_enter Tryd.func7, Tryd.ntmps7
  go_wp2_with (first
    | (at_builtin; refine wpList_appA _ rfl (.tmp 3) (.tmp 4) rfl w.heap.size (.slice (some ⟨w.heap.size, 0, none⟩) 0 0) [] rfl (OwnA.lit _ _ (Nat.le_refl _)) (by simp) ao n cap xs rfl h1.out HN.out n (by simp) (by omega) (by simp) ?_; intro g1 c1 w1 ho1 hb1 hc1 hm1 hg1 hw1; have z1 := hg1.size; simp only [World.size_alloc] at z1)
    | (at_builtin; refine wpList_appA _ rfl (.tmp 5) (.tmp 7) rfl w.heap.size (.slice (some ⟨g1, 0, none⟩) n c1) xs rfl (OwnA.alloc ho1 _) (by simp) (some ⟨w1.heap.size, 0, none⟩) 1 1 [(77, ByteArray.empty)] rfl (mark_src w1) (by intro h; cases h) (n + 1) (by rw [HL.out]) (by omega) (by simp; omega) ?_; intro g c w2 ho2 hb2 hc2 hm2 hg2 hw2; have hnc : n ≤ c := by omega))
  go_ret
  refine ⟨g, c, rfl, lent_of_own HZ.out HL.out hb2 hc2 hm2 ho2, ?_⟩
  have z : w.heap.size ≤ w1.heap.size := by have := hg1.size; simp at this; omega
  exact ((((Below.refl _ _).alloc (Nat.le_refl _) _).grown hg1 (by simp) (by intro k hk; cases hk; exact Nat.le_refl _)).alloc z _).grown hg2 (by simp; omega) (by intro k hk; cases hk; exact hb1)

set_option maxRecDepth 100000 in
set_option maxHeartbeats 1000000 in
theorem keptA_any (g n c : Nat) (ao : Option Addr) (cap : Nat) (xs : List (Int × ByteArray)) (w : World) (base : Nat) (hs : Ats w ao n cap xs) (hn : n ≤ 1048576) (ho : LentA w base g n c xs) :
    Calls Tryd.prog 14 #[.slice (some ⟨g, 0, none⟩) n c, .slice ao n cap] w fun e w' => e = .returned (.bool true) ∧ Below w.heap.size w w' := by
  have hk0 := ralike_any (some ⟨g, 0, none⟩) n c xs ao n cap xs w ho.ats hs
  rw [decide_eq_true (rfl : xs = xs)] at hk0
  have hk := hide hk0
  clear hk0
  have HO := hide ho
  have hcI : (n : Int) + 1 ≤ (c : Int) := by have := ho.hc; omega
  have hw : IntKind.i64.wrap ((n : Int) + 1) = (n : Int) + 1 := i64_in _ (by omega)
  have hp : (0 : Int) ≤ (n : Int) + 1 := by omega
  clear hs ho
  go_enter Tryd.func14, Tryd.ntmps14
  go_wp2_with fail
  refine hk.out.mono ?_
  rintro e w1 ⟨rfl, B1⟩
  have hm := (HO.out.below B1).mark
  go_wp2
  go_ret
  exact ⟨rfl, B1⟩

set_option maxRecDepth 100000 in
theorem names12_any (w : World) : Calls Tryd.prog 36 #[] w fun e w' => e = .returned (.bool true) ∧ w' = w := by
  go_enter Tryd.func36, Tryd.ntmps36
  go_wp2
  go_ret
  exact ⟨rfl, rfl⟩

set_option maxRecDepth 100000 in
theorem works12_any (w : World) :
    Calls Tryd.prog 15 #[] w fun e w' => e = .returned (.bool true) ∧ Below w.heap.size w w' := by
  have hm := hide (may_one w)
  go_enter Tryd.func15, Tryd.ntmps15
  go_wp2_with fail
  refine hm.out.mono ?_
  rintro e w1 ⟨rfl, h1⟩
  go_wp2_with fail
  refine (names12_any _).mono ?_
  rintro e w2 ⟨rfl, rfl⟩
  go_wp2
  go_ret
  exact ⟨rfl, h1⟩

end Go.Proofs.YtgbbgfjamneioaaDoor
