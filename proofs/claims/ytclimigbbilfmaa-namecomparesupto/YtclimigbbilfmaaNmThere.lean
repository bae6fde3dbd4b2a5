/-
  A name that may be: chancerylaw12.there answers true.
-/
import Derived.Test.YtclimigbbilfmaaNmRow
namespace Go.Proofs.Ytclimigbbilfmaa
open Go.RowKit Go.IntWalk Go.Shelf

theorem may_de (k : Int) (hk : k = 12 ∨ k = 19) : mayL k [68, 69] = true := by
  rcases hk with rfl | rfl <;> decide

theorem great_any (b : Int) (h1 : 65 ≤ b) (h2 : b ≤ 90) (w : World) :
    Calls Try.prog 77 #[.int .u8 b] w fun e w' => e = .returned (.bool true) ∧ w' = w := by
  go_enter Try.func77, Try.ntmps77
  go_wp2
  go_ret
  exact ⟨rfl, rfl⟩

set_option maxRecDepth 100000 in
theorem country_de (w : World) :
    Calls Try.prog 62 #[.string ⟨#[68, 69]⟩] w fun e w' => e = .returned (.bool true) ∧ w' = w := by
  go_enter Try.func62, Try.ntmps62
  go_wp2_with (go_at_call 77; refine (great_any _ (by decide) (by decide) _).mono ?_; rintro e w1 ⟨rfl, hw⟩; have hw2 := hw.symm; subst hw2)
  go_ret
  exact ⟨rfl, rfl⟩

set_option maxRecDepth 100000 in
theorem mayBe_de (w : World) :
    Calls Try.prog 43 #[.agg #[.int .i64 6, .string ⟨#[68, 69]⟩]] w fun e w' => e = .returned (.bool true) ∧ Below w.heap.size w w' := by
  have m1 := hide (fun W => may_any 19 ⟨#[68, 69]⟩ (by decide) W)
  have m2 := hide (fun W => may_any 12 ⟨#[68, 69]⟩ (by decide) W)
  have e1 := may_de 19 (.inr rfl)
  have e2 := may_de 12 (.inl rfl)
  have hB := nbelow w (.cells #[.int .i64 6, .string ⟨#[68, 69]⟩] 43)
  go_enter Try.func43, Try.ntmps43
  go_wp2_with (first
    | (go_at_call 62; refine (country_de _).mono ?_; rintro e w1 ⟨rfl, hw⟩; have hw2 := hw.symm; subst hw2)
    | (go_at_call_of 63 (19 : Int); refine (m1.out _).mono ?_; rintro e w1 ⟨rfl, L1⟩; have c1 := (L1.cell (p := ⟨w.heap.size, 1, none⟩) (by simp)).trans (show (w.alloc (.cells #[.int .i64 6, .string ⟨#[68, 69]⟩] 43)).cell? ⟨w.heap.size, 1, none⟩ = some (.string ⟨#[68, 69]⟩) by simp); replace hB := hB.trans (L1.mono hB.size); rw [e1])
    | (go_at_call_of 63 (12 : Int); refine (m2.out _).mono ?_; rintro e w2 ⟨rfl, L2⟩; replace hB := hB.trans (L2.mono hB.size); rw [e2]))
  go_ret
  exact ⟨rfl, hB⟩

set_option maxRecDepth 100000 in
theorem may_one (w : World) :
    Calls Try.prog 24 #[.slice (some ⟨w.heap.size, 0, none⟩) 1 1] (w.alloc (.cells #[.int .i64 6, .string ⟨#[68, 69]⟩] 43)) fun e w' => e = .returned (.bool true) ∧ Below w.heap.size w w' := by
  have hm := hide mayBe_de
  have hB := nbelow w (.cells #[.int .i64 6, .string ⟨#[68, 69]⟩] 43)
  have c0 : (w.alloc (.cells #[.int .i64 6, .string ⟨#[68, 69]⟩] 43)).cell? ⟨w.heap.size, 0, none⟩ = some (.int .i64 6) := by simp
  have c1 : (w.alloc (.cells #[.int .i64 6, .string ⟨#[68, 69]⟩] 43)).cell? ⟨w.heap.size, 1, none⟩ = some (.string ⟨#[68, 69]⟩) := by simp
  generalize (w.alloc (.cells #[.int .i64 6, .string ⟨#[68, 69]⟩] 43)) = W at hB c0 c1 ⊢
  have hs := hB.size
  generalize w.heap.size = g at hB c0 c1 hs ⊢
  go_enter Try.func24, Try.ntmps24
  go_wp2
  go_loopw [10] (fun v wr => (v = .int .i64 0 ∧ wr = W) ∨ (v = .int .i64 1 ∧ Below W.heap.size W wr)) (fun v _ => 1 - (intOf v).toNat)
  case atStart => exact .inl ⟨rfl, rfl⟩
  case round =>
    rcases hrel with ⟨rfl, rfl⟩ | ⟨rfl, hQ⟩
    · go_wp2_with (go_at_call 43; refine (hm.out _).mono ?_; rintro e w1 ⟨rfl, h1⟩)
      go_roundw
      case rel => exact .inr ⟨rfl, (nbelow _ _).trans (h1.mono (by simp))⟩
      case measure => simp [intOf]
    · go_wp2
      go_ret
      exact ⟨rfl, hB.trans (hQ.mono hs)⟩

end Go.Proofs.Ytclimigbbilfmaa
