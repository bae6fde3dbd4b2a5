/-
  The reference's ToBool tells of any bytes what the plain functions say.
-/
import Derived.Test.YtodhlmnjfkbocaaRRead2
import Derived.Deep.DeepCutAuto
namespace Go.Proofs.Ytodhlmnjfkbocaa
open Go.RowKit Go.IntWalk

theorem rBool_any (v : Bool) (w : World) :
    Calls Try.prog 28 #[.bool v] w fun e w' => ∃ g, e = .returned (.slice (some ⟨g, 0, none⟩) 1 1) ∧ OwnB w' w.heap.size (.slice (some ⟨g, 0, none⟩) 1 1) (boolS v) ∧ Below w.heap.size w w' := by
  cases v with
  | true =>
    go_enter Try.func28, Try.ntmps28
    go_wp2
    go_ret
    exact ⟨_, rfl, OwnB.lit _ [255] _ 1 rfl rfl (Nat.le_refl _) (by decide), (Below.refl _ _).alloc (Nat.le_refl _) _⟩
  | false =>
    go_enter Try.func28, Try.ntmps28
    go_wp2
    go_ret
    exact ⟨_, rfl, OwnB.lit _ [0] _ 1 rfl rfl (Nat.le_refl _) (by decide), (Below.refl _ _).alloc (Nat.le_refl _) _⟩

theorem textD {w : World} {ao : Option Addr} {n cap : Nat} {xs : List Int} (h : Src w ao n cap xs) : (convert 22 9 (.slice ao n cap)).run Try.prog w.drew = .ok (.string (strOfNums xs)) w.drew :=
  (show Src w.drew ao n cap xs from h.heap rfl).text

set_option maxRecDepth 100000 in
set_option maxHeartbeats 1000000 in
theorem refToBool_any (ao : Option Addr) (n cap : Nat) (xs : List Int) (w : World) (hs : Src w ao n cap xs) :
    Calls Try.prog 34 #[.slice ao n cap] w fun e w' => e = .returned (.tuple #[.bool (toBoolV xs), .int .i64 (toBoolE xs)]) ∧ Below w.heap.size w w' := by
  have hby := hide hs.hbyt
  by_cases h1 : xs = [255]
  · have e1 : toBoolE xs = 0 := by simp [toBoolE, h1]
    have e2 : toBoolV xs = true := by simp [toBoolV, h1]
    rw [e1, e2]
    have hq : ((strOfNums xs).toList == (strOfNums (boolS true)).toList) = true := by rw [h1]; simp [boolS]
    clear e1 e2 h1
    have t1 := textD hs
    go_enter Try.func34, Try.ntmps34
    go_wp2_with fail
    go_region_with (first | (go_at_call 28; refine (rBool_any true _).mono ?_; rintro e w2 ⟨gI, rfl, oI, BI⟩; have t2 : (convert 22 9 (.slice ao n cap)).run Try.prog w2 = .ok (.string (strOfNums xs)) w2 := ((show Src w.drew ao n cap xs from hs.heap rfl).below BI).text; have t3 := (oI.toSrc (boolS_byte true)).text))
    all_goals
      go_wp2_with fail
      go_wp2
      exact bodyPost_ret (v := .tuple #[.bool true, .int .i64 0]) (by simp [results, Try.results34, go_sem]) rfl ⟨rfl, (((Drawn.refl w).more 1).below (Below.refl _ _)).trans (BI.mono (Nat.le_refl _))⟩
  · have hq : ((strOfNums xs).toList == (strOfNums (boolS true)).toList) = false := str_ne hby.out (boolS_byte _) h1
    go_enter Try.func34, Try.ntmps34
    go_upto_region 1 with fail
    go_cut [8] (fun c wx => c = .bool false ∧ Below w.heap.size w wx)
    case first =>
      have t1 := textD hs
      go_region_with (first | (go_at_call 28; refine (rBool_any true _).mono ?_; rintro e w2 ⟨gI, rfl, oI, BI⟩; have t2 : (convert 22 9 (.slice ao n cap)).run Try.prog w2 = .ok (.string (strOfNums xs)) w2 := ((show Src w.drew ao n cap xs from hs.heap rfl).below BI).text; have t3 := (oI.toSrc (boolS_byte true)).text))
      all_goals
        go_wp2_with fail
        go_meet
        exact ⟨by simp, (((Drawn.refl w).more 1).below (Below.refl _ _)).trans (BI.mono (Nat.le_refl _))⟩
    case rest =>
      obtain ⟨rfl, B2⟩ := hcut
      clear hq
      have s2 := hs.below B2
      by_cases h2 : xs = [0]
      · have HE1 := hide (show toBoolE xs = 0 by simp [toBoolE, h2])
        have HE2 := hide (show toBoolV xs = false by simp [toBoolV, h2])
        have hq : ((strOfNums xs).toList == (strOfNums (boolS false)).toList) = true := by rw [h2]; simp [boolS]
        clear h2 h1
        have t1 := textD s2
        go_wp2_with fail
        go_region_with (first | (go_at_call 28; refine (rBool_any false _).mono ?_; rintro e w3 ⟨gI, rfl, oI, BI⟩; have t2 : (convert 22 9 (.slice ao n cap)).run Try.prog w3 = .ok (.string (strOfNums xs)) w3 := ((show Src wc.drew ao n cap xs from s2.heap rfl).below BI).text; have t3 := (oI.toSrc (boolS_byte false)).text))
        all_goals
          go_wp2_with fail
          go_wp2
          exact bodyPost_ret (v := .tuple #[.bool false, .int .i64 0]) (by simp [results, Try.results34, go_sem]) rfl ⟨by rw [HE1.out, HE2.out], (((Drawn.refl wc).more 1).below B2).trans (BI.mono B2.size)⟩
      · have HE1 := hide (show toBoolE xs = 20 by simp [toBoolE, h1, h2])
        have HE2 := hide (show toBoolV xs = false by simp [toBoolV, h1])
        have hq : ((strOfNums xs).toList == (strOfNums (boolS false)).toList) = false := str_ne hby.out (boolS_byte _) h2
        clear h2 h1
        have t1 := textD s2
        go_wp2_with fail
        go_region_with (first | (go_at_call 28; refine (rBool_any false _).mono ?_; rintro e w3 ⟨gI, rfl, oI, BI⟩; have t2 : (convert 22 9 (.slice ao n cap)).run Try.prog w3 = .ok (.string (strOfNums xs)) w3 := ((show Src wc.drew ao n cap xs from s2.heap rfl).below BI).text; have t3 := (oI.toSrc (boolS_byte false)).text))
        all_goals
          go_wp2_with fail
          go_wp2
          exact bodyPost_ret (v := .tuple #[.bool false, .int .i64 20]) (by simp [results, Try.results34, go_sem]) rfl ⟨by rw [HE1.out, HE2.out], (((Drawn.refl wc).more 1).below B2).trans (BI.mono B2.size)⟩

end Go.Proofs.Ytodhlmnjfkbocaa
