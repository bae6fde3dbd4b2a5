/-
  The law's kept: lent pieces are as they were.
-/
import Derived.Test.YtgajejomibnghaaDoorSaLent
import Derived.Deep.QuietTactic
import Derived.BigQuiet
namespace Go.Proofs.YtgajejomibnghaaDoor
open Go.RowKit Go.IntWalk

theorem Lents.src {w : World} {base : Nat} {vs : List Value} {ls : List (List Int)} (h : Lents w base vs ls) (hd : ∀ l ∈ ls, Dg 256 l) (j : Nat) (hj : j < vs.length) : ∃ g c, vs.getD j (.slice none 0 0) = .slice (some ⟨g, 0, none⟩) (ls.getD j []).length c ∧ (ls.getD j []).length + 1 ≤ c ∧ c ≤ maxLen ∧ Src w (some ⟨g, 0, none⟩) ((ls.getD j []).length + 1) c (ls.getD j [] ++ [90]) ∧ Src w (some ⟨g, 0, none⟩) (ls.getD j []).length c (ls.getD j []) := by
  obtain ⟨g, c, h1, h2, h3, h4, h5, h6⟩ := h.each j hj
  have hb : ∀ x ∈ ls.getD j [], 0 ≤ x ∧ x < 256 := by
    have hjl : j < ls.length := by rw [← h.len]; exact hj
    have := hd (ls[j]) (List.getElem_mem hjl)
    intro x hx
    exact this x (by simpa [List.getD, hjl] using hx)
  have hb90 : ∀ x ∈ ls.getD j [] ++ [90], 0 ≤ x ∧ x < 256 := by
    intro x hx
    rcases List.mem_append.1 hx with hx | hx
    · exact hb x hx
    · simp at hx; omega
  exact ⟨g, c, h1, h2, h3, h6.src hb90 _ (Nat.le_refl _) (by rw [List.take_of_length_le (by simp)]) h3, h6.src hb90 _ (by omega) (by simp) h3⟩
theorem Drew.src {w W : World} (h : Drew w W) {ao : Option Addr} {n c : Nat} {xs : List Int} (s : Src w ao n c xs) : Src W ao n c xs := s.heap h.heap

set_option maxRecDepth 100000 in
set_option maxHeartbeats 4000000 in
theorem keptP_any (base : Nat) (ai : Option Addr) (ci : Nat) (vs : List Value) (po : Option Addr) (pn pc : Nat) (ls : List (List Int)) (w : World) (hV : OwnV w base (.slice ai pn ci) vs) (hLs : Lents w base vs ls) (hvl : vs.length = pn) (hP : Pcs0 w po pn ls) (hpn : pn ≤ 1048576) (hb : ls.flatten.length ≤ 1048576) :
    Calls Tryd.prog 13 #[.slice ai pn ci, .slice po pn pc] w fun e w' => e = .returned (.bool true) ∧ Drew w w' := by
  have HP := hide hP
  have HD := hide hP.dg
  have HV := hide hV
  have HLs := hide hLs
  have HVL := hide hvl
  have HLL := hide hP.len
  have HFb := hide hb
  have pI : (pn : Int) ≤ 1048576 := by omega
  clear hP hV hLs hb hvl
  go_enter Tryd.func13, Tryd.ntmps13
  go_wp2
  go_loopw [5] (fun i wr => ∃ (k : Nat), i = .int .i64 (k : Int) ∧ k ≤ pn ∧ Hid (Drew w wr)) (fun i _ => pn - (intOf i).toNat)
  case atStart => exact ⟨0, rfl, by omega, Drew.refl _⟩
  case round =>
    obtain ⟨k, rfl, hk, HW⟩ := hrel
    by_cases hlt : k < pn
    · have kI : (k : Int) < (pn : Int) := by omega
      obtain ⟨b, off, rfl, hr⟩ := HP.out.row (by omega)
      obtain ⟨a', m, c', hc0, hs0⟩ := hr k hlt
      obtain ⟨gv, rfl, hcv⟩ := HV.out.at k (by rw [HVL.out]; exact hlt)
      obtain ⟨g, c, hv, hgc, hgm, hs1, _⟩ := HLs.out.src HD.out k (by rw [HVL.out]; exact hlt)
      rw [hv] at hcv
      have hlm := hs0.hlen
      obtain ⟨l, hl⟩ : ∃ l, ls.getD k [] = l := ⟨_, rfl⟩
      have hmb : m ≤ 1048576 := by
        have h3 := flat_take ls k (by rw [HLL.out]; exact hlt)
        have h4 := flat_le ls (k + 1)
        have h5 := HFb.out
        rw [h3, List.length_append, hlm] at h4
        omega
      rw [hl] at hs0 hs1 hcv hlm hgc
      rw [hlm] at hs1 hcv hgc
      have e0 := (HW.out.cell _).trans hc0
      have e1 := (HW.out.cell _).trans hcv
      have HLm := hide hlm
      have hcI : (m : Int) + 1 ≤ (c : Int) := by omega
      have mI : (m : Int) ≤ 1048576 := by omega
      have hw : IntKind.i64.wrap ((m : Int) + 1) = (m : Int) + 1 := by rw [IntKind.wrap_i64]; omega
      have hp : (0 : Int) ≤ (m : Int) + 1 := by omega
      have ad : ¬ 9223372036854775807 < (strOfNums l).size + 1 := by rw [strOfNums_size, HLm.out]; omega
      have ae : strOfNums l ++ { data := #[90] } = strOfNums (l ++ [90]) := by rw [← strOf_append]; rfl
      have t1 := (HW.out.src hs0.toS).textN
      have t2 := (HW.out.src hs1).textN
      clear hr hc0 hs0 hcv hv hs1 hlm hl
      go_wp2
      go_quiet (fail)
      go_wp2
      go_roundw
      case rel => exact ⟨k + 1, by go_num, by omega, HW.out.more _⟩
      case measure => simp [intOf]; omega
    · obtain rfl : k = pn := by omega
      go_wp2
      go_ret
      exact ⟨rfl, HW.out⟩

end Go.Proofs.YtgajejomibnghaaDoor
