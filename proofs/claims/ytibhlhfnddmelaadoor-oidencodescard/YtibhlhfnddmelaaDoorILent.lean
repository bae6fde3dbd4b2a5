/-
  Layer 3's statements' own helpers over numbers: 'lent' copies numbers and lays a mark behind them; the document's Compare; 'same'; 'kept'; 'names'.
-/
import Derived.Test.YtibhlhfnddmelaaDoorMoreI
import Derived.Deep.QuietTactic
import Derived.BigQuiet
namespace Go.Proofs.YtibhlhfnddmelaaDoor
open Go.RowKit Go.IntWalk

set_option maxRecDepth 100000 in
set_option maxHeartbeats 1000000 in
theorem lentI_any (ao : Option Addr) (n cap : Nat) (xs : List Int) (w : World) (hs : SrcI w ao n cap xs) (hn : n ≤ 17592186043904) :
    Calls Tryd.prog 5 #[.slice ao n cap] w fun e w' => ∃ g c, e = .returned (.slice (some ⟨g, 0, none⟩) n c) ∧ n + 1 ≤ c ∧ c ≤ maxLen ∧ w.heap.size ≤ g ∧ g < w'.heap.size ∧
      OwnI w' w.heap.size (.slice (some ⟨g, 0, none⟩) (n + 1) c) (xs ++ [-71]) ∧ Below w.heap.size w w' := by
  have hlen := hs.hlen
  have HL := hide hlen
  clear hlen
  go_enter Tryd.func5, Tryd.ntmps5
  go_wp2_with (first | (at_builtin; refine wpList_appIN _ rfl (.tmp 3) (.tmp 4) rfl w.heap.size (.slice (some ⟨w.heap.size, 0, none⟩) 0 0) [] rfl (OwnI.lit _ [] _ 0 rfl rfl (Nat.le_refl _) (by decide)) ao n cap xs rfl (hs.alloc _) n (by simpa using HL.out) (.inl (by simp)) (by omega) (by simp) ?_; intro g1 c1 w1 ho1 hb1 hl1 hc1 hm1 hg1) | (at_builtin; refine wpList_appIN _ rfl (.tmp 5) (.tmp 6) rfl w.heap.size (.slice (some ⟨g1, 0, none⟩) n c1) xs rfl (ho1.alloc _) (some ⟨w1.heap.size, 0, none⟩) 1 1 [-71] rfl (SrcI.lit [-71] _ 1 rfl rfl (by simp) (by decide)) (n + 1) (by simpa using HL.out) (.inl (by simp)) (by omega) (by simp; omega) ?_; intro g c w2 ho2 hb2 hl2 hc2 hm2 hg2; have hnc : n ≤ c := by omega))
  go_ret
  refine ⟨g, c, rfl, hc2, hm2, hb2, hl2, ho2, ?_⟩
  have z : w.heap.size ≤ w1.heap.size := by omega
  exact ((((Below.refl _ _).alloc (Nat.le_refl _) _).grown hg1 (by simp) (by intro k hk; cases hk; exact Nat.le_refl _)).alloc z _).grown hg2 (by simp; omega) (by intro k hk; cases hk; exact hb1)

/-- Of two lists of numbers: which comes first. -/
def cmpS : List Int → List Int → Int
  | [], [] => 0
  | [], _ :: _ => -1
  | _ :: _, [] => 1
  | x :: xs, y :: ys => if x < y then -1 else if y < x then 1 else cmpS xs ys

theorem cmpS_refl (xs : List Int) : cmpS xs xs = 0 := by
  induction xs with
  | nil => rfl
  | cons x xs ih => simp [cmpS, ih]

theorem cmpS_eq {xs ys : List Int} (h : cmpS xs ys = 0) : xs = ys := by
  induction xs generalizing ys with
  | nil => cases ys <;> simp_all [cmpS]
  | cons x xs ih =>
    cases ys with
    | nil => simp [cmpS] at h
    | cons y ys =>
      simp only [cmpS] at h
      split at h
      · simp at h
      · split at h
        · simp at h
        · rw [ih h]; congr 1; omega

theorem cmpS_drop (xs ys : List Int) (k : Nat) (hx : k < xs.length) (hy : k < ys.length) :
    cmpS (xs.drop k) (ys.drop k) = if xs.getD k 0 < ys.getD k 0 then -1 else if ys.getD k 0 < xs.getD k 0 then 1 else cmpS (xs.drop (k + 1)) (ys.drop (k + 1)) := by
  rw [List.drop_eq_getElem_cons hx, List.drop_eq_getElem_cons hy]
  simp [cmpS, List.getD, hx, hy]

theorem cmpS_endL (xs ys : List Int) (k : Nat) (hx : xs.length ≤ k) (hy : k < ys.length) : cmpS (xs.drop k) (ys.drop k) = -1 := by
  rw [List.drop_eq_nil_of_le hx, List.drop_eq_getElem_cons hy]; rfl

theorem cmpS_endR (xs ys : List Int) (k : Nat) (hx : k < xs.length) (hy : ys.length ≤ k) : cmpS (xs.drop k) (ys.drop k) = 1 := by
  rw [List.drop_eq_nil_of_le hy, List.drop_eq_getElem_cons hx]; rfl

theorem cmpS_end (xs ys : List Int) (k : Nat) (hx : xs.length ≤ k) (hy : ys.length ≤ k) : cmpS (xs.drop k) (ys.drop k) = 0 := by
  rw [List.drop_eq_nil_of_le hx, List.drop_eq_nil_of_le hy]; rfl

end Go.Proofs.YtibhlhfnddmelaaDoor
